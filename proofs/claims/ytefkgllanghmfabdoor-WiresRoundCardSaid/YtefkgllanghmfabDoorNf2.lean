/- The raw network's builder, walked: a good network. -/
import Derived.Test.YtefkgllanghmfabDoorNfA
namespace Go.Proofs.YtefkgllanghmfabDoor
open Go.RowKit Go.Shelf

def I64 (n : Int) : Prop := -9223372036854775808 ≤ n ∧ n ≤ 9223372036854775807
/-- A raw network lies in the world. -/
structure RawAt (w : World) (nb : Int) (a1 : Option Addr) (n1 : Nat) (a2 : Option Addr) (n2 : Nat) : Prop where
  nb : I64 nb
  le1 : n1 ≤ 9223372036854775807
  le2 : n2 ≤ 9223372036854775807
  lines : ∀ k, k < n1 → ∃ b o, a1 = some ⟨b, o, none⟩ ∧ ∃ f t x : Int, I64 f ∧ I64 t ∧ I64 x ∧ w.cell? ⟨b, o + k * 3, none⟩ = some (.int .i64 f) ∧ w.cell? ⟨b, o + k * 3 + 1, none⟩ = some (.int .i64 t) ∧ w.cell? ⟨b, o + k * 3 + 2, none⟩ = some (.int .i64 x)
  ties : ∀ k, k < n2 → ∃ b o, a2 = some ⟨b, o, none⟩ ∧ ∃ (f t : Int) (c : Bool), I64 f ∧ I64 t ∧ w.cell? ⟨b, o + k * 3, none⟩ = some (.int .i64 f) ∧ w.cell? ⟨b, o + k * 3 + 1, none⟩ = some (.int .i64 t) ∧ w.cell? ⟨b, o + k * 3 + 2, none⟩ = some (.bool c)

def nfW (w : World) (nb : Int) (v1 v2 : Value) : World := ((w.alloc (.cells #[.int .i64 nb, v1, v2] 25)).alloc (.cells #[.string ⟨#[]⟩, .slice none 0 0, .slice none 0 0, .slice none 0 0, .slice none 0 0, .slice none 0 0] 32)).alloc (.cells #[.string ⟨#[110]⟩, .slice none 0 0, .slice none 0 0, .slice none 0 0, .slice none 0 0, .slice none 0 0] 32)
def netN : NetM := ⟨⟨#[110]⟩, [], [], [], [], []⟩
theorem nf_start (w : World) (nb : Int) (v1 v2 : Value) : Nf w (nfW w nb v1 v2) #[.int .i64 nb, v1, v2] netN (.slice none 0 0) (.slice none 0 0) (.slice none 0 0) (.slice none 0 0) (.slice none 0 0) := by
  refine ⟨?_, ?_, ?_, ⟨World.ownsRow_nil _ _ _ _, World.ownsRow_nil _ _ _ _, World.ownsRow_nil _ _ _ _, World.ownsRow_nil _ _ _ _, World.ownsRow_nil _ _ _ _⟩, ?_, by simp [nfW]⟩
  · have := World.alloc_heap_new ((w.alloc (.cells #[.int .i64 nb, v1, v2] 25)).alloc (.cells #[.string ⟨#[]⟩, .slice none 0 0, .slice none 0 0, .slice none 0 0, .slice none 0 0, .slice none 0 0] 32)) (.cells #[.string ⟨#[110]⟩, .slice none 0 0, .slice none 0 0, .slice none 0 0, .slice none 0 0, .slice none 0 0] 32)
    rw [World.size_alloc, World.size_alloc] at this
    exact this
  · exact (Below.heap_alloc _ _ _ (by simp; omega)).trans ((Below.heap_alloc _ _ _ (by simp)).trans (World.alloc_heap_new w _))
  · have := World.alloc_heap_new (w.alloc (.cells #[.int .i64 nb, v1, v2] 25)) (.cells #[.string ⟨#[]⟩, .slice none 0 0, .slice none 0 0, .slice none 0 0, .slice none 0 0, .slice none 0 0] 32)
    rw [World.size_alloc] at this
    exact (Below.heap_alloc _ _ _ (by simp)).trans this
  · exact (((Below.refl _ w).alloc (Nat.le_refl _) _).alloc (by simp) _).alloc (by simp; omega) _
theorem undrewB {w w' : World} (h : Below w.drew.heap.size w.drew w') : Below w.heap.size w w' := ⟨h.os, h.tape, h.output, h.size, h.block⟩
theorem Nf.far {w W w2 : World} {raw : Array Value} {N : NetM} {b l g d t v : Value} {e sz m : Nat} {xs : List Value} (h : Nf w W raw N b l g d t) (o : Obj) (hv : W.ownsRow (w.heap.size + 3) e sz v m xs) (hg : (W.alloc o).grownBy w2 v.ownBlock) {p : Addr} {u : Value} (hp : p.block < w.heap.size + 3) (hc : W.cell? p = some u) : w2.cell? p = some u := by
  obtain ⟨h1, _⟩ := h.grown o hv hg
  unfold World.cell? at hc ⊢
  rw [h1 _ hp]
  exact hc
theorem Nf.lenL {w W : World} {raw : Array Value} {N : NetM} {b l g d t : Value} (h : Nf w W raw N b l g d t) {k : Nat} (e : N.lines.length = k) : W.ownsRow (w.heap.size + 3) 48 5 l k (N.lines.flatMap LineM.cells) := by
  have := h.owns.hl
  rwa [e] at this
theorem Nf.lenT {w W : World} {raw : Array Value} {N : NetM} {b l g d t : Value} (h : Nf w W raw N b l g d t) {k : Nat} (e : N.ties.length = k) : W.ownsRow (w.heap.size + 3) 52 4 t k (N.ties.flatMap TieM.cells) := by
  have := h.owns.ht
  rwa [e] at this
theorem Nf.lenB {w W : World} {raw : Array Value} {N : NetM} {b l g d t : Value} (h : Nf w W raw N b l g d t) {k : Nat} (e : N.buses.length = k) : W.ownsRow (w.heap.size + 3) 9 1 b k (N.buses.map Value.string) := by
  have := h.owns.hb
  rwa [e] at this

set_option maxHeartbeats 8000000 in
set_option maxRecDepth 100000 in
theorem NetFrom_any (nb : Int) (a1 a2 : Option Addr) (n1 c1 n2 c2 : Nat) (w : World) (h : RawAt w nb a1 n1 a2 n2) :
    Calls Tryd.prog 4 #[.agg #[.int .i64 nb, .slice a1 n1 c1, .slice a2 n2 c2]] w fun e w' => ∃ N b l g d t, e = .returned (.agg #[.string N.name, b, l, g, d, t]) ∧ GoodM N ∧ Owns w' w.heap.size b l g d t N ∧ Below w.heap.size w w' := by
  have hst := nf_start w nb (.slice a1 n1 c1) (.slice a2 n2 c2)
  obtain ⟨W, hW⟩ : ∃ W, W = nfW w nb (.slice a1 n1 c1) (.slice a2 n2 c2) := ⟨_, rfl⟩
  rw [← hW] at hst
  unfold nfW at hW
  have HW := hide' hW
  have HST := hide' hst
  have HR := hide' h
  obtain ⟨i0, hi, hz0, hz1, hz2⟩ := info_parts Tryd.info9
  clear hst hW h
  go_enter Tryd.func4, Tryd.ntmps4
  go_wp2_with (go_at_call 8; refine (picked_any nb 7 _ HR.out.nb.1 HR.out.nb.2 (by decide) (by decide)).mono ?_; rintro e w1 ⟨⟨p, rfl, hp⟩, rfl⟩)
  rw [← HW.out]
  obtain ⟨bn, hbn⟩ : ∃ bn : Nat, (bn : Int) = 2 + p := ⟨2 + p, by omega⟩
  have hb2 : 2 ≤ bn := by omega
  have hb8 : bn ≤ 8 := by omega
  rw [← hbn]
  obtain ⟨K, hK⟩ : ∃ K, K = w.heap.size + 1 + 1 := ⟨_, rfl⟩
  rw [← hK]
  have HK := hide' hK
  clear hK hbn hp HW
  obtain ⟨rw0, hrw⟩ : ∃ r : Array Value, r = #[.int .i64 nb, .slice a1 n1 c1, .slice a2 n2 c2] := ⟨_, rfl⟩
  rw [← hrw] at HST
  have HRW := hide' hrw
  clear hrw
  go_loopw [5] (fun si wr => ∃ (k : Nat) (b : Value), si = .int .i64 k ∧ k ≤ bn ∧ Hid (Nf w wr rw0 (busN k) b (.slice none 0 0) (.slice none 0 0) (.slice none 0 0) (.slice none 0 0))) (fun si _ => bn - (intOf si).toNat)
  case atStart => exact ⟨0, _, rfl, Nat.zero_le _, HST⟩
  case round =>
    clear HST
    obtain ⟨k, b, rfl, hk, HN⟩ := hrel
    by_cases hlt : k < bn
    · have e0 : (busN k).buses.length = k := by simp [busN]
      obtain ⟨ab, cb, rfl⟩ := own_slice HN.out.owns.hb
      rw [e0] at HN
      have q1 : wr.cell? ⟨K, 1, none⟩ = some (.slice ab k cb) := by rw [HK.out]; exact HN.out.cell 1 rfl
      have hdec := dec_any k (by omega) wr.drew
      have hsz : ¬ 9223372036854775807 < 1 + (decB k).size := by
        have := (decB_small (v := k) (by omega) (by omega)).2.2
        rw [length_bytesOf] at this
        omega
      have HD := hide' hdec
      have HSZ := hide' hsz
      have HE0 := hide' e0
      clear hdec hsz e0
      go_wp2_with fail
      refine wp_region_tail (fun W => W.cell? ⟨K, 1, none⟩ = some (.slice ab k cb)) 8 (by kernel_rfl) ?_
      refine wpAnyD_takeAt 0 (some 20) (v := ?_) rfl (by kernel_rfl) (by kernel_rfl) (by kernel_rfl) (by kernel_rfl) (by kernel_rfl) (fun _ _ _ h => h) (by exact q1) (fun o hop => ?_) ?_
      rotate_left
      · injection hop with hop
        subst hop
        refine ⟨rfl, fun W hW => ?_⟩
        have s0 := hW
        go_simp
        rfl
      try simp only [Act.put, List.setIfInBounds_toArray, List.set_cons_zero, List.set_cons_succ]
      refine wpAnyD_takeAt 1 (some 21) (v := ?_) rfl (by kernel_rfl) (by kernel_rfl) (by kernel_rfl) (by kernel_rfl) (by kernel_rfl) (fun _ _ _ h => h) (by exact q1) (fun o hop => ?_) ?_
      rotate_left
      · injection hop with hop
        subst hop
        refine ⟨rfl, fun W hW => ?_⟩
        have s0 := hW
        go_simp
        rfl
      try simp only [Act.put, List.setIfInBounds_toArray, List.set_cons_zero, List.set_cons_succ]
      refine wpAnyD_takeAt 2 (some 22) (v := ?_) rfl (by kernel_rfl) (by kernel_rfl) (by kernel_rfl) (by kernel_rfl) (by kernel_rfl) (fun _ _ _ h => h) (by exact q1) (fun o hop => ?_) ?_
      rotate_left
      · injection hop with hop
        subst hop
        refine ⟨rfl, fun W hW => ?_⟩
        have s0 := hW
        go_simp
        rfl
      try simp only [Act.put, List.setIfInBounds_toArray, List.set_cons_zero, List.set_cons_succ]
      refine wpAnyT_one (i := 3) (by kernel_rfl) rfl rfl (fun K' hK => ?_)
      go_simp
      go_at_call 9
      refine HD.out.mono ?_
      rintro e w1 ⟨rfl, hb1⟩
      have hN1 : Nf w w1 rw0 (busN k) (.slice ab k cb) (.slice none 0 0) (.slice none 0 0) (.slice none 0 0) (.slice none 0 0) := HN.out.later (undrewB hb1)
      have q11 : w1.cell? ⟨K, 1, none⟩ = some (.slice ab k cb) := by rw [HK.out]; exact hN1.cell 1 rfl
      refine hK.out _ _ (fun _ => by exact q11) ?_
      clear hK K'
      have HN1 := hide' hN1
      clear hN1 hb1
      refine wpAnyT_one (i := 4) (by kernel_rfl) rfl rfl (fun K' hK => ?_)
      have hsz := HSZ.out
      obtain ⟨x, hx⟩ : ∃ x, (⟨#[98]⟩ : ByteArray) ++ decB k = x := ⟨_, rfl⟩
      go_simp
      refine hK.out _ _ (fun _ => by exact q11) ?_
      clear hK K'
      have HX := hide' hx
      clear hsz hx
      refine wpAnyT_one (i := 5) (by kernel_rfl) rfl rfl (fun K' hK => ?_)
      go_simp
      have a1 : ∀ o, (w1.alloc o).cell? ⟨K, 1, none⟩ = some (.slice ab k cb) := later q11
      refine hK.out _ _ (fun _ => by exact a1 _) ?_
      clear hK K'
      refine wpAnyT_one (i := 6) (by kernel_rfl) rfl rfl (fun K' hK => ?_)
      refine step_append_own (hg := rfl) (s := .tmp 21) (x := .tmp 25) (t := 26) (hop := rfl) (base := w.heap.size + 3) (e := 9) (i := i0) (z := .string ⟨#[]⟩) (size := 1) (bytes := 16) (h1 := Tryd.underlying26) (h2 := hi) (h3 := hz0) (h4 := hz1) (h5 := hz2) (h6 := rfl) (h7 := Nat.succ_pos 0) (v := .slice ab k cb) (n := k) (xs := (busN k).buses.map Value.string) (hs := rfl) (hown := (HN1.out.lenB HE0.out).alloc _) (ad := ⟨w1.heap.size, 0, none⟩) (m := 1) (c := 1) (news := [.string x]) (hx := rfl) (hn := rfl) (hc := cell_one_new _ _ _) (h1c := one_cell rfl) (b1 := by unfold maxLen; omega) (b2 := by omega) (b3 := by have := HN1.out.sz; simp; omega) (hK := ?_)
      intro v' w6 hown' hgrow
      obtain ⟨a', c', rfl⟩ := own_slice hown'
      obtain ⟨m1, f1⟩ := HN1.out.mid _ (HN1.out.lenB HE0.out) hgrow 1 rfl
      rw [show w.heap.size + 2 = K from HK.out.symm] at m1 f1
      refine hK.out _ _ (fun _ => by exact m1) ?_
      clear hK K'
      refine wpAnyT_one (i := 7) (by kernel_rfl) rfl rfl (fun K' hK => ?_)
      go_simp
      refine hK.out _ _ (fun _ => by exact m1) ?_
      clear hK K'
      refine wpAnyT_one (i := 8) (by kernel_rfl) rfl rfl (fun K' hK => ?_)
      go_simp
      refine hK.out _ _ (fun h => absurd rfl h) ?_
      clear hK K'
      refine wpAnyT_done (by kernel_rfl) ?_ _
      have hfin := HN1.out.bus (x := x) hgrow (by rw [HE0.out]; exact hown')
      rw [← HX.out] at hfin
      have hfin2 : Nf w (w6.setCell ⟨K, 1, none⟩ (.slice a' (k + 1) c')) rw0 (busN (k + 1)) (.slice a' (k + 1) c') (.slice none 0 0) (.slice none 0 0) (.slice none 0 0) (.slice none 0 0) := by
        rw [HK.out, ← busN_snoc]
        exact hfin
      have HF := hide' hfin2
      clear hfin hfin2 hgrow hown' m1 f1 q11 a1 q1 HN HN1 HD HSZ
      go_wp2
      exact ⟨⟨k + 1, _, by go_num, by omega, HF⟩, by simp [intOf]; omega⟩
    · have hkb : k = bn := by omega
      rw [hkb] at HN
      clear hkb
      go_wp2_with fail
      clear hlt hk hi hz0 hz1 hz2 i0
      go_loopw [6] (fun si wr => ∃ (k : Nat) (Ls : List LineM) (b l : Value), si = .int .i64 k ∧ Ls.length = k ∧ k ≤ 12 ∧ Hid (AllOk (LineOk bn) Ls) ∧ Hid (Nf w wr rw0 (lineN bn Ls) b l (.slice none 0 0) (.slice none 0 0) (.slice none 0 0))) (fun si _ => 12 - (intOf si).toNat)
      case atStart => exact ⟨0, [], _, _, rfl, rfl, by omega, AllOk.nil _, HN⟩
      case round =>
        clear HN
        obtain ⟨k, Ls, b, l, rfl, hlen, h12, HA, HN⟩ := hrel
        have r1 : wr.cell? ⟨w.heap.size, 1, none⟩ = some (.slice a1 n1 c1) := HN.out.rawc 1 (by rw [HRW.out]; rfl)
        by_cases hgo : k < n1 ∧ k < 12
        · obtain ⟨hk1, hk12⟩ := hgo
          obtain ⟨i0, hi, hz0, hz1, hz2⟩ := info_parts Tryd.info48
          obtain ⟨bx, ox, rfl, fx, tx, wx, hf, ht, hx, x0, x1, x2⟩ := HR.out.lines k hk1
          obtain ⟨al, cl, rfl⟩ := own_slice HN.out.owns.hl
          have e0 : (lineN bn Ls).lines.length = k := hlen
          rw [e0] at HN
          have q2 : wr.cell? ⟨K, 2, none⟩ = some (.slice al k cl) := by rw [HK.out]; exact HN.out.cell 2 rfl
          have y0 := HN.out.keep x0
          have y1 := HN.out.keep x1
          have y2 := HN.out.keep x2
          have hpick := picked_any fx bn wr hf.1 hf.2 (by omega) (by omega)
          have HP := hide' hpick
          have HE0 := hide' e0
          have HTX := hide' ht
          have HXX := hide' hx
          have x1' := x1
          clear x0 x1 x2 hpick e0 hf ht hx
          go_wp2_with (go_at_call 8; refine HP.out.mono ?_; rintro e w1 ⟨⟨p1, rfl, hp1⟩, hw1⟩; obtain rfl := hw1.symm)
          have hbn1 : ((bn - 1 : Nat) : Int) = (bn : Int) - 1 := by omega
          have hpk2 : ∀ W, Calls Tryd.prog 8 #[.int .i64 tx, .int .i64 ((bn : Int) - 1)] W fun e w' => (∃ p : Nat, e = .returned (.int .i64 p) ∧ p < bn - 1) ∧ w' = W := fun W => by
            rw [← hbn1]
            exact picked_any tx (bn - 1) W HTX.out.1 HTX.out.2 (by omega) (by omega)
          have hpk3 : ∀ W, Calls Tryd.prog 8 #[.int .i64 wx, .int .i64 50] W fun e w' => (∃ p : Nat, e = .returned (.int .i64 p) ∧ p < 50) ∧ w' = W := fun W => picked_any wx 50 W HXX.out.1 HXX.out.2 (by decide) (by decide)
          have hdec := dec_any k (by omega) wr.drew
          have hsz : ¬ 9223372036854775807 < 1 + (decB k).size := by
            have := (decB_small (v := k) (by omega) (by omega)).2.2
            rw [length_bytesOf] at this
            omega
          have HD := hide' hdec
          have HSZ := hide' hsz
          have HP2 := hide' hpk2
          have HP3 := hide' hpk3
          have hwr1 : IntKind.i64.wrap ((p1 : Int) + 1) = (p1 : Int) + 1 := wrap_small _ (by omega) (by omega)
          have hwr2 : IntKind.i64.wrap ((bn : Int) - 1) = (bn : Int) - 1 := wrap_small _ (by omega) (by omega)
          have hbn0 : ¬ bn = 0 := by omega
          clear hdec hsz hpk2 hpk3 hbn1 y0 HP HTX HXX
          refine wp_region_tail (fun W => W.cell? ⟨K, 2, none⟩ = some (.slice al k cl) ∧ W.cell? ⟨w.heap.size, 1, none⟩ = some (.slice (some ⟨bx, ox, none⟩) n1 c1) ∧ W.cell? ⟨bx, ox + k * 3 + 1, none⟩ = some (.int .i64 tx) ∧ W.cell? ⟨bx, ox + k * 3 + 2, none⟩ = some (.int .i64 wx)) 32 (by kernel_rfl) ?_
          refine wpAnyD_takeAt 0 (some 47) (v := ?_) rfl (by kernel_rfl) (by kernel_rfl) (by kernel_rfl) (by kernel_rfl) (by kernel_rfl) (fun _ _ _ h => h) (by exact ⟨q2, r1, y1, y2⟩) (fun o hop => ?_) ?_
          rotate_left
          · injection hop with hop
            subst hop
            refine ⟨rfl, fun W hW => ?_⟩
            obtain ⟨s0, s1, s2, s3⟩ := hW
            go_simp
            rfl
          try simp only [Act.put, List.setIfInBounds_toArray, List.set_cons_zero, List.set_cons_succ]
          refine wpAnyD_takeAt 1 (some 48) (v := ?_) rfl (by kernel_rfl) (by kernel_rfl) (by kernel_rfl) (by kernel_rfl) (by kernel_rfl) (fun _ _ _ h => h) (by exact ⟨q2, r1, y1, y2⟩) (fun o hop => ?_) ?_
          rotate_left
          · injection hop with hop
            subst hop
            refine ⟨rfl, fun W hW => ?_⟩
            obtain ⟨s0, s1, s2, s3⟩ := hW
            go_simp
            rfl
          try simp only [Act.put, List.setIfInBounds_toArray, List.set_cons_zero, List.set_cons_succ]
          refine wpAnyD_takeAt 2 (some 49) (v := ?_) rfl (by kernel_rfl) (by kernel_rfl) (by kernel_rfl) (by kernel_rfl) (by kernel_rfl) (fun _ _ _ h => h) (by exact ⟨q2, r1, y1, y2⟩) (fun o hop => ?_) ?_
          rotate_left
          · injection hop with hop
            subst hop
            refine ⟨rfl, fun W hW => ?_⟩
            obtain ⟨s0, s1, s2, s3⟩ := hW
            go_simp
            rfl
          try simp only [Act.put, List.setIfInBounds_toArray, List.set_cons_zero, List.set_cons_succ]
          refine wpAnyD_takeAt 5 (some 52) (v := ?_) rfl (by kernel_rfl) (by kernel_rfl) (by kernel_rfl) (by kernel_rfl) (by kernel_rfl) (fun _ _ _ h => h) (by exact ⟨q2, r1, y1, y2⟩) (fun o hop => ?_) ?_
          rotate_left
          · injection hop with hop
            subst hop
            refine ⟨rfl, fun W hW => ?_⟩
            obtain ⟨s0, s1, s2, s3⟩ := hW
            go_simp
            rfl
          try simp only [Act.put, List.setIfInBounds_toArray, List.set_cons_zero, List.set_cons_succ]
          refine wpAnyD_takeAt 6 (some 53) (v := ?_) rfl (by kernel_rfl) (by kernel_rfl) (by kernel_rfl) (by kernel_rfl) (by kernel_rfl) (fun _ _ _ h => h) (by exact ⟨q2, r1, y1, y2⟩) (fun o hop => ?_) ?_
          rotate_left
          · injection hop with hop
            subst hop
            refine ⟨rfl, fun W hW => ?_⟩
            obtain ⟨s0, s1, s2, s3⟩ := hW
            go_simp
            rfl
          try simp only [Act.put, List.setIfInBounds_toArray, List.set_cons_zero, List.set_cons_succ]
          refine wpAnyD_takeAt 7 (some 54) (v := ?_) rfl (by kernel_rfl) (by kernel_rfl) (by kernel_rfl) (by kernel_rfl) (by kernel_rfl) (fun _ _ _ h => h) (by exact ⟨q2, r1, y1, y2⟩) (fun o hop => ?_) ?_
          rotate_left
          · injection hop with hop
            subst hop
            refine ⟨rfl, fun W hW => ?_⟩
            obtain ⟨s0, s1, s2, s3⟩ := hW
            go_simp
            rfl
          try simp only [Act.put, List.setIfInBounds_toArray, List.set_cons_zero, List.set_cons_succ]
          refine wpAnyD_takeAt 8 (some 55) (v := ?_) rfl (by kernel_rfl) (by kernel_rfl) (by kernel_rfl) (by kernel_rfl) (by kernel_rfl) (fun _ _ _ h => h) (by exact ⟨q2, r1, y1, y2⟩) (fun o hop => ?_) ?_
          rotate_left
          · injection hop with hop
            subst hop
            refine ⟨rfl, fun W hW => ?_⟩
            obtain ⟨s0, s1, s2, s3⟩ := hW
            go_simp
            rfl
          try simp only [Act.put, List.setIfInBounds_toArray, List.set_cons_zero, List.set_cons_succ]
          refine wpAnyD_takeAt 9 (some 56) (v := ?_) rfl (by kernel_rfl) (by kernel_rfl) (by kernel_rfl) (by kernel_rfl) (by kernel_rfl) (fun _ _ _ h => h) (by exact ⟨q2, r1, y1, y2⟩) (fun o hop => ?_) ?_
          rotate_left
          · injection hop with hop
            subst hop
            refine ⟨rfl, fun W hW => ?_⟩
            obtain ⟨s0, s1, s2, s3⟩ := hW
            go_simp
            rfl
          try simp only [Act.put, List.setIfInBounds_toArray, List.set_cons_zero, List.set_cons_succ]
          refine wpAnyD_takeAt 10 (some 57) (v := ?_) rfl (by kernel_rfl) (by kernel_rfl) (by kernel_rfl) (by kernel_rfl) (by kernel_rfl) (fun _ _ _ h => h) (by exact ⟨q2, r1, y1, y2⟩) (fun o hop => ?_) ?_
          rotate_left
          · injection hop with hop
            subst hop
            refine ⟨rfl, fun W hW => ?_⟩
            obtain ⟨s0, s1, s2, s3⟩ := hW
            go_simp
            rfl
          try simp only [Act.put, List.setIfInBounds_toArray, List.set_cons_zero, List.set_cons_succ]
          refine wpAnyD_takeAt 11 (some 58) (v := ?_) rfl (by kernel_rfl) (by kernel_rfl) (by kernel_rfl) (by kernel_rfl) (by kernel_rfl) (fun _ _ _ h => h) (by exact ⟨q2, r1, y1, y2⟩) (fun o hop => ?_) ?_
          rotate_left
          · injection hop with hop
            subst hop
            refine ⟨rfl, fun W hW => ?_⟩
            obtain ⟨s0, s1, s2, s3⟩ := hW
            go_simp
            rfl
          try simp only [Act.put, List.setIfInBounds_toArray, List.set_cons_zero, List.set_cons_succ]
          refine wpAnyD_takeAt 12 (some 59) (v := ?_) rfl (by kernel_rfl) (by kernel_rfl) (by kernel_rfl) (by kernel_rfl) (by kernel_rfl) (fun _ _ _ h => h) (by exact ⟨q2, r1, y1, y2⟩) (fun o hop => ?_) ?_
          rotate_left
          · injection hop with hop
            subst hop
            refine ⟨rfl, fun W hW => ?_⟩
            obtain ⟨s0, s1, s2, s3⟩ := hW
            go_simp
            rfl
          try simp only [Act.put, List.setIfInBounds_toArray, List.set_cons_zero, List.set_cons_succ]
          refine wpAnyD_takeAt 13 (some 60) (v := ?_) rfl (by kernel_rfl) (by kernel_rfl) (by kernel_rfl) (by kernel_rfl) (by kernel_rfl) (fun _ _ _ h => h) (by exact ⟨q2, r1, y1, y2⟩) (fun o hop => ?_) ?_
          rotate_left
          · injection hop with hop
            subst hop
            refine ⟨rfl, fun W hW => ?_⟩
            obtain ⟨s0, s1, s2, s3⟩ := hW
            go_simp
            rfl
          try simp only [Act.put, List.setIfInBounds_toArray, List.set_cons_zero, List.set_cons_succ]
          refine wpAnyD_takeAt 14 (some 61) (v := ?_) rfl (by kernel_rfl) (by kernel_rfl) (by kernel_rfl) (by kernel_rfl) (by kernel_rfl) (fun _ _ _ h => h) (by exact ⟨q2, r1, y1, y2⟩) (fun o hop => ?_) ?_
          rotate_left
          · injection hop with hop
            subst hop
            refine ⟨rfl, fun W hW => ?_⟩
            obtain ⟨s0, s1, s2, s3⟩ := hW
            go_simp
            rfl
          try simp only [Act.put, List.setIfInBounds_toArray, List.set_cons_zero, List.set_cons_succ]
          refine wpAnyD_takeAt 15 (some 62) (v := ?_) rfl (by kernel_rfl) (by kernel_rfl) (by kernel_rfl) (by kernel_rfl) (by kernel_rfl) (fun _ _ _ h => h) (by exact ⟨q2, r1, y1, y2⟩) (fun o hop => ?_) ?_
          rotate_left
          · injection hop with hop
            subst hop
            refine ⟨rfl, fun W hW => ?_⟩
            obtain ⟨s0, s1, s2, s3⟩ := hW
            go_simp
            rfl
          try simp only [Act.put, List.setIfInBounds_toArray, List.set_cons_zero, List.set_cons_succ]
          refine wpAnyD_takeAt 18 (some 65) (v := ?_) rfl (by kernel_rfl) (by kernel_rfl) (by kernel_rfl) (by kernel_rfl) (by kernel_rfl) (fun _ _ _ h => h) (by exact ⟨q2, r1, y1, y2⟩) (fun o hop => ?_) ?_
          rotate_left
          · injection hop with hop
            subst hop
            refine ⟨rfl, fun W hW => ?_⟩
            obtain ⟨s0, s1, s2, s3⟩ := hW
            go_simp
            rfl
          try simp only [Act.put, List.setIfInBounds_toArray, List.set_cons_zero, List.set_cons_succ]
          refine wpAnyD_takeAt 20 (some 67) (v := ?_) rfl (by kernel_rfl) (by kernel_rfl) (by kernel_rfl) (by kernel_rfl) (by kernel_rfl) (fun _ _ _ h => h) (by exact ⟨q2, r1, y1, y2⟩) (fun o hop => ?_) ?_
          rotate_left
          · injection hop with hop
            subst hop
            refine ⟨rfl, fun W hW => ?_⟩
            obtain ⟨s0, s1, s2, s3⟩ := hW
            go_simp
            rfl
          try simp only [Act.put, List.setIfInBounds_toArray, List.set_cons_zero, List.set_cons_succ]
          refine wpAnyD_takeAt 21 (some 68) (v := ?_) rfl (by kernel_rfl) (by kernel_rfl) (by kernel_rfl) (by kernel_rfl) (by kernel_rfl) (fun _ _ _ h => h) (by exact ⟨q2, r1, y1, y2⟩) (fun o hop => ?_) ?_
          rotate_left
          · injection hop with hop
            subst hop
            refine ⟨rfl, fun W hW => ?_⟩
            obtain ⟨s0, s1, s2, s3⟩ := hW
            go_simp
            rfl
          try simp only [Act.put, List.setIfInBounds_toArray, List.set_cons_zero, List.set_cons_succ]
          refine wpAnyD_takeAt 22 (some 69) (v := ?_) rfl (by kernel_rfl) (by kernel_rfl) (by kernel_rfl) (by kernel_rfl) (by kernel_rfl) (fun _ _ _ h => h) (by exact ⟨q2, r1, y1, y2⟩) (fun o hop => ?_) ?_
          rotate_left
          · injection hop with hop
            subst hop
            refine ⟨rfl, fun W hW => ?_⟩
            obtain ⟨s0, s1, s2, s3⟩ := hW
            go_simp
            rfl
          try simp only [Act.put, List.setIfInBounds_toArray, List.set_cons_zero, List.set_cons_succ]
          refine wpAnyD_takeAt 23 (some 70) (v := ?_) rfl (by kernel_rfl) (by kernel_rfl) (by kernel_rfl) (by kernel_rfl) (by kernel_rfl) (fun _ _ _ h => h) (by exact ⟨q2, r1, y1, y2⟩) (fun o hop => ?_) ?_
          rotate_left
          · injection hop with hop
            subst hop
            refine ⟨rfl, fun W hW => ?_⟩
            obtain ⟨s0, s1, s2, s3⟩ := hW
            go_simp
            rfl
          try simp only [Act.put, List.setIfInBounds_toArray, List.set_cons_zero, List.set_cons_succ]
          refine wpAnyD_takeAt 24 (some 71) (v := ?_) rfl (by kernel_rfl) (by kernel_rfl) (by kernel_rfl) (by kernel_rfl) (by kernel_rfl) (fun _ _ _ h => h) (by exact ⟨q2, r1, y1, y2⟩) (fun o hop => ?_) ?_
          rotate_left
          · injection hop with hop
            subst hop
            refine ⟨rfl, fun W hW => ?_⟩
            obtain ⟨s0, s1, s2, s3⟩ := hW
            go_simp
            rfl
          try simp only [Act.put, List.setIfInBounds_toArray, List.set_cons_zero, List.set_cons_succ]
          refine wpAnyD_takeAt 25 (some 72) (v := ?_) rfl (by kernel_rfl) (by kernel_rfl) (by kernel_rfl) (by kernel_rfl) (by kernel_rfl) (fun _ _ _ h => h) (by exact ⟨q2, r1, y1, y2⟩) (fun o hop => ?_) ?_
          rotate_left
          · injection hop with hop
            subst hop
            refine ⟨rfl, fun W hW => ?_⟩
            obtain ⟨s0, s1, s2, s3⟩ := hW
            go_simp
            rfl
          try simp only [Act.put, List.setIfInBounds_toArray, List.set_cons_zero, List.set_cons_succ]
          refine wpAnyT_one (i := 3) (by kernel_rfl) rfl rfl (fun K' hK => ?_)
          go_simp
          go_at_call 9
          refine HD.out.mono ?_
          rintro e w1 ⟨rfl, hb1⟩
          have hN1 : Nf w w1 rw0 (lineN bn Ls) b (.slice al k cl) (.slice none 0 0) (.slice none 0 0) (.slice none 0 0) := HN.out.later (undrewB hb1)
          have q21 : w1.cell? ⟨K, 2, none⟩ = some (.slice al k cl) := by rw [HK.out]; exact hN1.cell 2 rfl
          have z1 := (undrewB hb1).cell (World.block_lt_of_cell? wr _ r1) |>.trans r1
          have z2 := (undrewB hb1).cell (World.block_lt_of_cell? wr _ y1) |>.trans y1
          have z3 := (undrewB hb1).cell (World.block_lt_of_cell? wr _ y2) |>.trans y2
          refine hK.out _ _ (fun _ => by exact ⟨q21, z1, z2, z3⟩) ?_
          clear hK K'
          have HN1 := hide' hN1
          clear hN1 hb1
          have hsz := HSZ.out
          obtain ⟨x, hx⟩ : ∃ x, (⟨#[108]⟩ : ByteArray) ++ decB k = x := ⟨_, rfl⟩
          refine wpAnyD_takeAt 4 (some 51) (v := ?_) rfl (by kernel_rfl) (by kernel_rfl) (by kernel_rfl) (by kernel_rfl) (by kernel_rfl) (fun _ _ _ h => h) (by exact ⟨q21, z1, z2, z3⟩) (fun o hop => ?_) ?_
          rotate_left
          · injection hop with hop
            subst hop
            refine ⟨rfl, fun W hW => ?_⟩
            obtain ⟨s0, s1, s2, s3⟩ := hW
            go_simp
            rfl
          try simp only [Act.put, List.setIfInBounds_toArray, List.set_cons_zero, List.set_cons_succ]
          have HX := hide' hx
          clear hsz hx
          refine wpAnyT_one (i := 16) (by kernel_rfl) rfl rfl (fun K' hK => ?_)
          go_simp
          go_at_call 8
          refine (HP2.out _).mono ?_
          rintro e w2 ⟨⟨p2, rfl, hp2⟩, hw2⟩
          obtain rfl := hw2.symm
          have hwr3 : IntKind.i64.wrap ((p1 : Int) + 1 + p2) = (p1 : Int) + 1 + p2 := wrap_small _ (by omega) (by omega)
          obtain ⟨q, hq1, hq2, hqb, hqn⟩ := other_end hp1 hp2
          refine hK.out _ _ (fun _ => by exact ⟨q21, z1, z2, z3⟩) ?_
          clear hK K'
          refine wpAnyD_takeAt 17 (some 64) (v := ?_) rfl (by kernel_rfl) (by kernel_rfl) (by kernel_rfl) (by kernel_rfl) (by kernel_rfl) (fun _ _ _ h => h) (by exact ⟨q21, z1, z2, z3⟩) (fun o hop => ?_) ?_
          rotate_left
          · injection hop with hop
            subst hop
            refine ⟨rfl, fun W hW => ?_⟩
            obtain ⟨s0, s1, s2, s3⟩ := hW
            go_simp
            rfl
          try simp only [Act.put, List.setIfInBounds_toArray, List.set_cons_zero, List.set_cons_succ]
          refine wpAnyD_takeAt 19 (some 66) (v := ?_) rfl (by kernel_rfl) (by kernel_rfl) (by kernel_rfl) (by kernel_rfl) (by kernel_rfl) (fun _ _ _ h => h) (by exact ⟨q21, z1, z2, z3⟩) (fun o hop => ?_) ?_
          rotate_left
          · injection hop with hop
            subst hop
            refine ⟨rfl, fun W hW => ?_⟩
            obtain ⟨s0, s1, s2, s3⟩ := hW
            go_simp
            rfl
          try simp only [Act.put, List.setIfInBounds_toArray, List.set_cons_zero, List.set_cons_succ]
          refine wpAnyT_one (i := 26) (by kernel_rfl) rfl rfl (fun K' hK => ?_)
          go_simp
          go_at_call 8
          refine (HP3.out _).mono ?_
          rintro e w2 ⟨⟨p3, rfl, hp3⟩, hw2⟩
          obtain rfl := hw2.symm
          have hwr4 : IntKind.i64.wrap (1 + (p3 : Int)) = 1 + (p3 : Int) := wrap_small _ (by omega) (by omega)
          refine hK.out _ _ (fun _ => by exact ⟨q21, z1, z2, z3⟩) ?_
          clear hK K'
          refine wpAnyT_one (i := 27) (by kernel_rfl) rfl rfl (fun K' hK => ?_)
          go_simp
          refine hK.out _ _ (fun _ => by exact ⟨q21, z1, z2, z3⟩) ?_
          clear hK K'
          refine wpAnyT_one (i := 28) (by kernel_rfl) rfl rfl (fun K' hK => ?_)
          go_simp
          refine hK.out _ _ (fun _ => by exact ⟨q21, z1, z2, z3⟩) ?_
          clear hK K'
          refine wpAnyT_one (i := 29) (by kernel_rfl) rfl rfl (fun K' hK => ?_)
          go_simp
          have b1 : ∀ o, (w1.alloc o).cell? ⟨K, 2, none⟩ = some (.slice al k cl) := later q21
          have b2 : ∀ o, (w1.alloc o).cell? ⟨w.heap.size, 1, none⟩ = some (.slice (some ⟨bx, ox, none⟩) n1 c1) := later z1
          have b3 : ∀ o, (w1.alloc o).cell? ⟨bx, ox + k * 3 + 1, none⟩ = some (.int .i64 tx) := later z2
          have b4 : ∀ o, (w1.alloc o).cell? ⟨bx, ox + k * 3 + 2, none⟩ = some (.int .i64 wx) := later z3
          refine hK.out _ _ (fun _ => by exact ⟨b1 _, b2 _, b3 _, b4 _⟩) ?_
          clear hK K'
          refine wpAnyT_one (i := 30) (by kernel_rfl) rfl rfl (fun K' hK => ?_)
          refine step_append_own (hg := rfl) (s := .tmp 48) (x := .tmp 76) (t := 27) (hop := rfl) (base := w.heap.size + 3) (e := 48) (i := i0) (z := .agg #[.string ⟨#[]⟩, .int .i64 0, .int .i64 0, .int .i64 0, .int .i64 0]) (size := 5) (bytes := 48) (h1 := Tryd.underlying27) (h2 := hi) (h3 := hz0) (h4 := hz1) (h5 := hz2) (h6 := rfl) (h7 := Nat.succ_pos 4) (v := .slice al k cl) (n := k) (xs := (lineN bn Ls).lines.flatMap LineM.cells) (hs := rfl) (hown := (HN1.out.lenL HE0.out).alloc _) (ad := ⟨w1.heap.size, 0, none⟩) (m := 1) (c := 1) (news := [.string x, .int .i64 p1, .int .i64 q, .int .i64 (1 + (p3 : Int)), .int .i64 0]) (hx := rfl) (hn := rfl) (hc := cell_news w1 [.string x, .int .i64 p1, .int .i64 q, .int .i64 (1 + (p3 : Int)), .int .i64 0] 48) (h1c := five_one) (b1 := by unfold maxLen; omega) (b2 := by omega) (b3 := by have := HN1.out.sz; simp; omega) (hK := ?_)
          intro v' w6 hown' hgrow
          obtain ⟨a', c', rfl⟩ := own_slice hown'
          obtain ⟨m1, f1⟩ := HN1.out.mid _ (HN1.out.lenL HE0.out) hgrow 2 rfl
          have hbxl : bx < w.heap.size := World.block_lt_of_cell? w _ x1'
          have d1 := HN1.out.far _ (HN1.out.lenL HE0.out) hgrow (p := ⟨w.heap.size, 1, none⟩) (show w.heap.size < w.heap.size + 3 from Nat.lt_add_of_pos_right (by decide)) z1
          have d2 := HN1.out.far _ (HN1.out.lenL HE0.out) hgrow (p := ⟨bx, ox + k * 3 + 1, none⟩) (show bx < w.heap.size + 3 from Nat.lt_of_lt_of_le hbxl (Nat.le_add_right _ _)) z2
          have d3 := HN1.out.far _ (HN1.out.lenL HE0.out) hgrow (p := ⟨bx, ox + k * 3 + 2, none⟩) (show bx < w.heap.size + 3 from Nat.lt_of_lt_of_le hbxl (Nat.le_add_right _ _)) z3
          rw [show w.heap.size + 2 = K from HK.out.symm] at m1 f1
          refine hK.out _ _ (fun _ => by exact ⟨m1, d1, d2, d3⟩) ?_
          clear hK K'
          refine wpAnyT_one (i := 31) (by kernel_rfl) rfl rfl (fun K' hK => ?_)
          go_simp
          refine hK.out _ _ (fun _ => by exact ⟨m1, d1, d2, d3⟩) ?_
          clear hK K'
          refine wpAnyT_one (i := 32) (by kernel_rfl) rfl rfl (fun K' hK => ?_)
          go_simp
          refine hK.out _ _ (fun h => absurd rfl h) ?_
          clear hK K'
          refine wpAnyT_done (by kernel_rfl) ?_ _
          have hfin := HN1.out.line (x := ⟨x, p1, q, 1 + (p3 : Int), 0⟩) hgrow (by rw [HE0.out]; exact hown')
          have hfin2 : Nf w (w6.setCell ⟨K, 2, none⟩ (.slice a' (k + 1) c')) rw0 (lineN bn (Ls ++ [⟨x, p1, q, 1 + (p3 : Int), 0⟩])) b (.slice a' (k + 1) c') (.slice none 0 0) (.slice none 0 0) (.slice none 0 0) := by
            rw [HK.out]
            exact hfin
          have hok : LineOk bn Ls.length ⟨x, p1, q, 1 + (p3 : Int), 0⟩ := by
            refine ⟨?_, ?_, ?_, ?_, ?_, ?_, ?_, ?_, rfl⟩
            · rw [hlen, ← HX.out]; rfl
            · show (0 : Int) ≤ p1; omega
            · show (p1 : Int) < bn; omega
            · show (0 : Int) ≤ q; omega
            · show (q : Int) < bn; omega
            · show (p1 : Int) ≠ q; omega
            · show (1 : Int) ≤ 1 + p3; omega
            · show 1 + (p3 : Int) < 100; omega
          have HF := hide' hfin2
          have HA2 := hide' (HA.out.snoc hok)
          clear hfin hfin2 hgrow hown' m1 f1 q21 b1 b2 b3 b4 q2 HN HN1 HD HSZ d1 d2 d3 z1 z2 z3 y1 y2 hq1 hq2 hwr1 hwr2 hwr3 hwr4 hok HX
          go_wp2
          exact ⟨⟨k + 1, _, _, _, by go_num, by simp [hlen], by omega, HA2, HF⟩, by simp [intOf]; omega⟩
        · have hor : (k < n1 ∧ ¬ k < 12) ∨ ¬ k < n1 := by omega
          have hL12 : Ls.length ≤ 12 := by omega
          rcases hor with ⟨hk1, hk2⟩ | hk1
          all_goals
            go_wp2_with fail
            clear hgo hk1 r1
            go_loopw [8] (fun si wr => ∃ (k : Nat) (Ts : List TieM) (t : Value), si = .int .i64 k ∧ Ts.length = k ∧ k ≤ 8 ∧ Hid (AllOk (TieOk bn) Ts) ∧ Hid (Nf w wr rw0 (tieN bn Ls Ts) b l (.slice none 0 0) (.slice none 0 0) t)) (fun si _ => 8 - (intOf si).toNat)
            case atStart => exact ⟨0, [], _, rfl, rfl, by omega, AllOk.nil _, HN⟩
            case round =>
              clear HN
              obtain ⟨k, Ts, t, rfl, hlt2, h8, HA2, HN⟩ := hrel
              have r2 : wr.cell? ⟨w.heap.size, 2, none⟩ = some (.slice a2 n2 c2) := HN.out.rawc 2 (by rw [HRW.out]; rfl)
              by_cases hgo : k < n2 ∧ k < 8
              · obtain ⟨hk1, hk8⟩ := hgo
                obtain ⟨i0, hi, hz0, hz1, hz2⟩ := info_parts Tryd.info52
                obtain ⟨bx, ox, rfl, fx, tx, cx, hf, ht, x0, x1, x2⟩ := HR.out.ties k hk1
                obtain ⟨at5, ct5, rfl⟩ := own_slice HN.out.owns.ht
                have e0 : (tieN bn Ls Ts).ties.length = k := hlt2
                rw [e0] at HN
                have q5 : wr.cell? ⟨K, 5, none⟩ = some (.slice at5 k ct5) := by rw [HK.out]; exact HN.out.cell 5 rfl
                have y0 := HN.out.keep x0
                have y1 := HN.out.keep x1
                have y2 := HN.out.keep x2
                have hpick := picked_any fx bn wr hf.1 hf.2 (by omega) (by omega)
                have HP := hide' hpick
                have HE0 := hide' e0
                have HTX := hide' ht
                have x1' := x1
                clear x0 x1 x2 hpick e0 hf ht
                go_wp2_with (go_at_call 8; refine HP.out.mono ?_; rintro e w1 ⟨⟨p1, rfl, hp1⟩, hw1⟩; obtain rfl := hw1.symm)
                have hbn1 : ((bn - 1 : Nat) : Int) = (bn : Int) - 1 := by omega
                have hpk2 : ∀ W, Calls Tryd.prog 8 #[.int .i64 tx, .int .i64 ((bn : Int) - 1)] W fun e w' => (∃ p : Nat, e = .returned (.int .i64 p) ∧ p < bn - 1) ∧ w' = W := fun W => by
                  rw [← hbn1]
                  exact picked_any tx (bn - 1) W HTX.out.1 HTX.out.2 (by omega) (by omega)
                have hdec := dec_any k (by omega) wr.drew
                have hsz : ¬ 9223372036854775807 < 1 + (decB k).size := by
                  have := (decB_small (v := k) (by omega) (by omega)).2.2
                  rw [length_bytesOf] at this
                  omega
                have HD := hide' hdec
                have HSZ := hide' hsz
                have HP2 := hide' hpk2
                have hwr1 : IntKind.i64.wrap ((p1 : Int) + 1) = (p1 : Int) + 1 := wrap_small _ (by omega) (by omega)
                have hwr2 : IntKind.i64.wrap ((bn : Int) - 1) = (bn : Int) - 1 := wrap_small _ (by omega) (by omega)
                have hbn0 : ¬ bn = 0 := by omega
                clear hdec hsz hpk2 hbn1 y0 HP HTX
                refine wp_region_tail (fun W => W.cell? ⟨K, 5, none⟩ = some (.slice at5 k ct5) ∧ W.cell? ⟨w.heap.size, 2, none⟩ = some (.slice (some ⟨bx, ox, none⟩) n2 c2) ∧ W.cell? ⟨bx, ox + k * 3 + 1, none⟩ = some (.int .i64 tx) ∧ W.cell? ⟨bx, ox + k * 3 + 2, none⟩ = some (.bool cx)) 30 (by kernel_rfl) ?_
                refine wpAnyD_takeAt 0 (some 98) (v := ?_) rfl (by kernel_rfl) (by kernel_rfl) (by kernel_rfl) (by kernel_rfl) (by kernel_rfl) (fun _ _ _ h => h) (by exact ⟨q5, r2, y1, y2⟩) (fun o hop => ?_) ?_
                rotate_left
                · injection hop with hop
                  subst hop
                  refine ⟨rfl, fun W hW => ?_⟩
                  obtain ⟨s0, s1, s2, s3⟩ := hW
                  go_simp
                  rfl
                try simp only [Act.put, List.setIfInBounds_toArray, List.set_cons_zero, List.set_cons_succ]
                refine wpAnyD_takeAt 1 (some 99) (v := ?_) rfl (by kernel_rfl) (by kernel_rfl) (by kernel_rfl) (by kernel_rfl) (by kernel_rfl) (fun _ _ _ h => h) (by exact ⟨q5, r2, y1, y2⟩) (fun o hop => ?_) ?_
                rotate_left
                · injection hop with hop
                  subst hop
                  refine ⟨rfl, fun W hW => ?_⟩
                  obtain ⟨s0, s1, s2, s3⟩ := hW
                  go_simp
                  rfl
                try simp only [Act.put, List.setIfInBounds_toArray, List.set_cons_zero, List.set_cons_succ]
                refine wpAnyD_takeAt 2 (some 100) (v := ?_) rfl (by kernel_rfl) (by kernel_rfl) (by kernel_rfl) (by kernel_rfl) (by kernel_rfl) (fun _ _ _ h => h) (by exact ⟨q5, r2, y1, y2⟩) (fun o hop => ?_) ?_
                rotate_left
                · injection hop with hop
                  subst hop
                  refine ⟨rfl, fun W hW => ?_⟩
                  obtain ⟨s0, s1, s2, s3⟩ := hW
                  go_simp
                  rfl
                try simp only [Act.put, List.setIfInBounds_toArray, List.set_cons_zero, List.set_cons_succ]
                refine wpAnyD_takeAt 5 (some 103) (v := ?_) rfl (by kernel_rfl) (by kernel_rfl) (by kernel_rfl) (by kernel_rfl) (by kernel_rfl) (fun _ _ _ h => h) (by exact ⟨q5, r2, y1, y2⟩) (fun o hop => ?_) ?_
                rotate_left
                · injection hop with hop
                  subst hop
                  refine ⟨rfl, fun W hW => ?_⟩
                  obtain ⟨s0, s1, s2, s3⟩ := hW
                  go_simp
                  rfl
                try simp only [Act.put, List.setIfInBounds_toArray, List.set_cons_zero, List.set_cons_succ]
                refine wpAnyD_takeAt 6 (some 104) (v := ?_) rfl (by kernel_rfl) (by kernel_rfl) (by kernel_rfl) (by kernel_rfl) (by kernel_rfl) (fun _ _ _ h => h) (by exact ⟨q5, r2, y1, y2⟩) (fun o hop => ?_) ?_
                rotate_left
                · injection hop with hop
                  subst hop
                  refine ⟨rfl, fun W hW => ?_⟩
                  obtain ⟨s0, s1, s2, s3⟩ := hW
                  go_simp
                  rfl
                try simp only [Act.put, List.setIfInBounds_toArray, List.set_cons_zero, List.set_cons_succ]
                refine wpAnyD_takeAt 7 (some 105) (v := ?_) rfl (by kernel_rfl) (by kernel_rfl) (by kernel_rfl) (by kernel_rfl) (by kernel_rfl) (fun _ _ _ h => h) (by exact ⟨q5, r2, y1, y2⟩) (fun o hop => ?_) ?_
                rotate_left
                · injection hop with hop
                  subst hop
                  refine ⟨rfl, fun W hW => ?_⟩
                  obtain ⟨s0, s1, s2, s3⟩ := hW
                  go_simp
                  rfl
                try simp only [Act.put, List.setIfInBounds_toArray, List.set_cons_zero, List.set_cons_succ]
                refine wpAnyD_takeAt 8 (some 106) (v := ?_) rfl (by kernel_rfl) (by kernel_rfl) (by kernel_rfl) (by kernel_rfl) (by kernel_rfl) (fun _ _ _ h => h) (by exact ⟨q5, r2, y1, y2⟩) (fun o hop => ?_) ?_
                rotate_left
                · injection hop with hop
                  subst hop
                  refine ⟨rfl, fun W hW => ?_⟩
                  obtain ⟨s0, s1, s2, s3⟩ := hW
                  go_simp
                  rfl
                try simp only [Act.put, List.setIfInBounds_toArray, List.set_cons_zero, List.set_cons_succ]
                refine wpAnyD_takeAt 9 (some 107) (v := ?_) rfl (by kernel_rfl) (by kernel_rfl) (by kernel_rfl) (by kernel_rfl) (by kernel_rfl) (fun _ _ _ h => h) (by exact ⟨q5, r2, y1, y2⟩) (fun o hop => ?_) ?_
                rotate_left
                · injection hop with hop
                  subst hop
                  refine ⟨rfl, fun W hW => ?_⟩
                  obtain ⟨s0, s1, s2, s3⟩ := hW
                  go_simp
                  rfl
                try simp only [Act.put, List.setIfInBounds_toArray, List.set_cons_zero, List.set_cons_succ]
                refine wpAnyD_takeAt 10 (some 108) (v := ?_) rfl (by kernel_rfl) (by kernel_rfl) (by kernel_rfl) (by kernel_rfl) (by kernel_rfl) (fun _ _ _ h => h) (by exact ⟨q5, r2, y1, y2⟩) (fun o hop => ?_) ?_
                rotate_left
                · injection hop with hop
                  subst hop
                  refine ⟨rfl, fun W hW => ?_⟩
                  obtain ⟨s0, s1, s2, s3⟩ := hW
                  go_simp
                  rfl
                try simp only [Act.put, List.setIfInBounds_toArray, List.set_cons_zero, List.set_cons_succ]
                refine wpAnyD_takeAt 11 (some 109) (v := ?_) rfl (by kernel_rfl) (by kernel_rfl) (by kernel_rfl) (by kernel_rfl) (by kernel_rfl) (fun _ _ _ h => h) (by exact ⟨q5, r2, y1, y2⟩) (fun o hop => ?_) ?_
                rotate_left
                · injection hop with hop
                  subst hop
                  refine ⟨rfl, fun W hW => ?_⟩
                  obtain ⟨s0, s1, s2, s3⟩ := hW
                  go_simp
                  rfl
                try simp only [Act.put, List.setIfInBounds_toArray, List.set_cons_zero, List.set_cons_succ]
                refine wpAnyD_takeAt 12 (some 110) (v := ?_) rfl (by kernel_rfl) (by kernel_rfl) (by kernel_rfl) (by kernel_rfl) (by kernel_rfl) (fun _ _ _ h => h) (by exact ⟨q5, r2, y1, y2⟩) (fun o hop => ?_) ?_
                rotate_left
                · injection hop with hop
                  subst hop
                  refine ⟨rfl, fun W hW => ?_⟩
                  obtain ⟨s0, s1, s2, s3⟩ := hW
                  go_simp
                  rfl
                try simp only [Act.put, List.setIfInBounds_toArray, List.set_cons_zero, List.set_cons_succ]
                refine wpAnyD_takeAt 13 (some 111) (v := ?_) rfl (by kernel_rfl) (by kernel_rfl) (by kernel_rfl) (by kernel_rfl) (by kernel_rfl) (fun _ _ _ h => h) (by exact ⟨q5, r2, y1, y2⟩) (fun o hop => ?_) ?_
                rotate_left
                · injection hop with hop
                  subst hop
                  refine ⟨rfl, fun W hW => ?_⟩
                  obtain ⟨s0, s1, s2, s3⟩ := hW
                  go_simp
                  rfl
                try simp only [Act.put, List.setIfInBounds_toArray, List.set_cons_zero, List.set_cons_succ]
                refine wpAnyD_takeAt 14 (some 112) (v := ?_) rfl (by kernel_rfl) (by kernel_rfl) (by kernel_rfl) (by kernel_rfl) (by kernel_rfl) (fun _ _ _ h => h) (by exact ⟨q5, r2, y1, y2⟩) (fun o hop => ?_) ?_
                rotate_left
                · injection hop with hop
                  subst hop
                  refine ⟨rfl, fun W hW => ?_⟩
                  obtain ⟨s0, s1, s2, s3⟩ := hW
                  go_simp
                  rfl
                try simp only [Act.put, List.setIfInBounds_toArray, List.set_cons_zero, List.set_cons_succ]
                refine wpAnyD_takeAt 15 (some 113) (v := ?_) rfl (by kernel_rfl) (by kernel_rfl) (by kernel_rfl) (by kernel_rfl) (by kernel_rfl) (fun _ _ _ h => h) (by exact ⟨q5, r2, y1, y2⟩) (fun o hop => ?_) ?_
                rotate_left
                · injection hop with hop
                  subst hop
                  refine ⟨rfl, fun W hW => ?_⟩
                  obtain ⟨s0, s1, s2, s3⟩ := hW
                  go_simp
                  rfl
                try simp only [Act.put, List.setIfInBounds_toArray, List.set_cons_zero, List.set_cons_succ]
                refine wpAnyD_takeAt 18 (some 116) (v := ?_) rfl (by kernel_rfl) (by kernel_rfl) (by kernel_rfl) (by kernel_rfl) (by kernel_rfl) (fun _ _ _ h => h) (by exact ⟨q5, r2, y1, y2⟩) (fun o hop => ?_) ?_
                rotate_left
                · injection hop with hop
                  subst hop
                  refine ⟨rfl, fun W hW => ?_⟩
                  obtain ⟨s0, s1, s2, s3⟩ := hW
                  go_simp
                  rfl
                try simp only [Act.put, List.setIfInBounds_toArray, List.set_cons_zero, List.set_cons_succ]
                refine wpAnyD_takeAt 20 (some 118) (v := ?_) rfl (by kernel_rfl) (by kernel_rfl) (by kernel_rfl) (by kernel_rfl) (by kernel_rfl) (fun _ _ _ h => h) (by exact ⟨q5, r2, y1, y2⟩) (fun o hop => ?_) ?_
                rotate_left
                · injection hop with hop
                  subst hop
                  refine ⟨rfl, fun W hW => ?_⟩
                  obtain ⟨s0, s1, s2, s3⟩ := hW
                  go_simp
                  rfl
                try simp only [Act.put, List.setIfInBounds_toArray, List.set_cons_zero, List.set_cons_succ]
                refine wpAnyD_takeAt 21 (some 119) (v := ?_) rfl (by kernel_rfl) (by kernel_rfl) (by kernel_rfl) (by kernel_rfl) (by kernel_rfl) (fun _ _ _ h => h) (by exact ⟨q5, r2, y1, y2⟩) (fun o hop => ?_) ?_
                rotate_left
                · injection hop with hop
                  subst hop
                  refine ⟨rfl, fun W hW => ?_⟩
                  obtain ⟨s0, s1, s2, s3⟩ := hW
                  go_simp
                  rfl
                try simp only [Act.put, List.setIfInBounds_toArray, List.set_cons_zero, List.set_cons_succ]
                refine wpAnyD_takeAt 22 (some 120) (v := ?_) rfl (by kernel_rfl) (by kernel_rfl) (by kernel_rfl) (by kernel_rfl) (by kernel_rfl) (fun _ _ _ h => h) (by exact ⟨q5, r2, y1, y2⟩) (fun o hop => ?_) ?_
                rotate_left
                · injection hop with hop
                  subst hop
                  refine ⟨rfl, fun W hW => ?_⟩
                  obtain ⟨s0, s1, s2, s3⟩ := hW
                  go_simp
                  rfl
                try simp only [Act.put, List.setIfInBounds_toArray, List.set_cons_zero, List.set_cons_succ]
                refine wpAnyD_takeAt 23 (some 121) (v := ?_) rfl (by kernel_rfl) (by kernel_rfl) (by kernel_rfl) (by kernel_rfl) (by kernel_rfl) (fun _ _ _ h => h) (by exact ⟨q5, r2, y1, y2⟩) (fun o hop => ?_) ?_
                rotate_left
                · injection hop with hop
                  subst hop
                  refine ⟨rfl, fun W hW => ?_⟩
                  obtain ⟨s0, s1, s2, s3⟩ := hW
                  go_simp
                  rfl
                try simp only [Act.put, List.setIfInBounds_toArray, List.set_cons_zero, List.set_cons_succ]
                refine wpAnyD_takeAt 24 (some 122) (v := ?_) rfl (by kernel_rfl) (by kernel_rfl) (by kernel_rfl) (by kernel_rfl) (by kernel_rfl) (fun _ _ _ h => h) (by exact ⟨q5, r2, y1, y2⟩) (fun o hop => ?_) ?_
                rotate_left
                · injection hop with hop
                  subst hop
                  refine ⟨rfl, fun W hW => ?_⟩
                  obtain ⟨s0, s1, s2, s3⟩ := hW
                  go_simp
                  rfl
                try simp only [Act.put, List.setIfInBounds_toArray, List.set_cons_zero, List.set_cons_succ]
                refine wpAnyD_takeAt 25 (some 123) (v := ?_) rfl (by kernel_rfl) (by kernel_rfl) (by kernel_rfl) (by kernel_rfl) (by kernel_rfl) (fun _ _ _ h => h) (by exact ⟨q5, r2, y1, y2⟩) (fun o hop => ?_) ?_
                rotate_left
                · injection hop with hop
                  subst hop
                  refine ⟨rfl, fun W hW => ?_⟩
                  obtain ⟨s0, s1, s2, s3⟩ := hW
                  go_simp
                  rfl
                try simp only [Act.put, List.setIfInBounds_toArray, List.set_cons_zero, List.set_cons_succ]
                refine wpAnyT_one (i := 3) (by kernel_rfl) rfl rfl (fun K' hK => ?_)
                go_simp
                go_at_call 9
                refine HD.out.mono ?_
                rintro e w1 ⟨rfl, hb1⟩
                have hN1 : Nf w w1 rw0 (tieN bn Ls Ts) b l (.slice none 0 0) (.slice none 0 0) (.slice at5 k ct5) := HN.out.later (undrewB hb1)
                have q51 : w1.cell? ⟨K, 5, none⟩ = some (.slice at5 k ct5) := by rw [HK.out]; exact hN1.cell 5 rfl
                have z1 := (undrewB hb1).cell (World.block_lt_of_cell? wr _ r2) |>.trans r2
                have z2 := (undrewB hb1).cell (World.block_lt_of_cell? wr _ y1) |>.trans y1
                have z3 := (undrewB hb1).cell (World.block_lt_of_cell? wr _ y2) |>.trans y2
                refine hK.out _ _ (fun _ => by exact ⟨q51, z1, z2, z3⟩) ?_
                clear hK K'
                have HN1 := hide' hN1
                clear hN1 hb1
                have hsz := HSZ.out
                obtain ⟨x, hx⟩ : ∃ x, (⟨#[116]⟩ : ByteArray) ++ decB k = x := ⟨_, rfl⟩
                refine wpAnyD_takeAt 4 (some 102) (v := ?_) rfl (by kernel_rfl) (by kernel_rfl) (by kernel_rfl) (by kernel_rfl) (by kernel_rfl) (fun _ _ _ h => h) (by exact ⟨q51, z1, z2, z3⟩) (fun o hop => ?_) ?_
                rotate_left
                · injection hop with hop
                  subst hop
                  refine ⟨rfl, fun W hW => ?_⟩
                  obtain ⟨s0, s1, s2, s3⟩ := hW
                  go_simp
                  rfl
                try simp only [Act.put, List.setIfInBounds_toArray, List.set_cons_zero, List.set_cons_succ]
                have HX := hide' hx
                clear hsz hx
                refine wpAnyT_one (i := 16) (by kernel_rfl) rfl rfl (fun K' hK => ?_)
                go_simp
                go_at_call 8
                refine (HP2.out _).mono ?_
                rintro e w2 ⟨⟨p2, rfl, hp2⟩, hw2⟩
                obtain rfl := hw2.symm
                have hwr3 : IntKind.i64.wrap ((p1 : Int) + 1 + p2) = (p1 : Int) + 1 + p2 := wrap_small _ (by omega) (by omega)
                obtain ⟨q, hq1, hq2, hqb, hqn⟩ := other_end hp1 hp2
                refine hK.out _ _ (fun _ => by exact ⟨q51, z1, z2, z3⟩) ?_
                clear hK K'
                refine wpAnyD_takeAt 17 (some 115) (v := ?_) rfl (by kernel_rfl) (by kernel_rfl) (by kernel_rfl) (by kernel_rfl) (by kernel_rfl) (fun _ _ _ h => h) (by exact ⟨q51, z1, z2, z3⟩) (fun o hop => ?_) ?_
                rotate_left
                · injection hop with hop
                  subst hop
                  refine ⟨rfl, fun W hW => ?_⟩
                  obtain ⟨s0, s1, s2, s3⟩ := hW
                  go_simp
                  rfl
                try simp only [Act.put, List.setIfInBounds_toArray, List.set_cons_zero, List.set_cons_succ]
                refine wpAnyD_takeAt 19 (some 117) (v := ?_) rfl (by kernel_rfl) (by kernel_rfl) (by kernel_rfl) (by kernel_rfl) (by kernel_rfl) (fun _ _ _ h => h) (by exact ⟨q51, z1, z2, z3⟩) (fun o hop => ?_) ?_
                rotate_left
                · injection hop with hop
                  subst hop
                  refine ⟨rfl, fun W hW => ?_⟩
                  obtain ⟨s0, s1, s2, s3⟩ := hW
                  go_simp
                  rfl
                try simp only [Act.put, List.setIfInBounds_toArray, List.set_cons_zero, List.set_cons_succ]
                refine wpAnyT_one (i := 26) (by kernel_rfl) rfl rfl (fun K' hK => ?_)
                go_simp
                refine hK.out _ _ (fun _ => by exact ⟨q51, z1, z2, z3⟩) ?_
                clear hK K'
                refine wpAnyT_one (i := 27) (by kernel_rfl) rfl rfl (fun K' hK => ?_)
                go_simp
                have b1 : ∀ o, (w1.alloc o).cell? ⟨K, 5, none⟩ = some (.slice at5 k ct5) := later q51
                have b2 : ∀ o, (w1.alloc o).cell? ⟨w.heap.size, 2, none⟩ = some (.slice (some ⟨bx, ox, none⟩) n2 c2) := later z1
                have b3 : ∀ o, (w1.alloc o).cell? ⟨bx, ox + k * 3 + 1, none⟩ = some (.int .i64 tx) := later z2
                have b4 : ∀ o, (w1.alloc o).cell? ⟨bx, ox + k * 3 + 2, none⟩ = some (.bool cx) := later z3
                refine hK.out _ _ (fun _ => by exact ⟨b1 _, b2 _, b3 _, b4 _⟩) ?_
                clear hK K'
                refine wpAnyT_one (i := 28) (by kernel_rfl) rfl rfl (fun K' hK => ?_)
                refine step_append_own (hg := rfl) (s := .tmp 99) (x := .tmp 125) (t := 30) (hop := rfl) (base := w.heap.size + 3) (e := 52) (i := i0) (z := .agg #[.string ⟨#[]⟩, .int .i64 0, .int .i64 0, .bool false]) (size := 4) (bytes := 40) (h1 := Tryd.underlying30) (h2 := hi) (h3 := hz0) (h4 := hz1) (h5 := hz2) (h6 := rfl) (h7 := Nat.succ_pos 3) (v := .slice at5 k ct5) (n := k) (xs := (tieN bn Ls Ts).ties.flatMap TieM.cells) (hs := rfl) (hown := (HN1.out.lenT HE0.out).alloc _) (ad := ⟨w1.heap.size, 0, none⟩) (m := 1) (c := 1) (news := [.string x, .int .i64 p1, .int .i64 q, .bool cx]) (hx := rfl) (hn := rfl) (hc := cell_news w1 [.string x, .int .i64 p1, .int .i64 q, .bool cx] 52) (h1c := four_one) (b1 := by unfold maxLen; omega) (b2 := by omega) (b3 := by have := HN1.out.sz; simp; omega) (hK := ?_)
                intro v' w6 hown' hgrow
                obtain ⟨a', c', rfl⟩ := own_slice hown'
                obtain ⟨m1, f1⟩ := HN1.out.mid _ (HN1.out.lenT HE0.out) hgrow 5 rfl
                have hbxl : bx < w.heap.size := World.block_lt_of_cell? w _ x1'
                have d1 := HN1.out.far _ (HN1.out.lenT HE0.out) hgrow (p := ⟨w.heap.size, 2, none⟩) (show w.heap.size < w.heap.size + 3 from Nat.lt_add_of_pos_right (by decide)) z1
                have d2 := HN1.out.far _ (HN1.out.lenT HE0.out) hgrow (p := ⟨bx, ox + k * 3 + 1, none⟩) (show bx < w.heap.size + 3 from Nat.lt_of_lt_of_le hbxl (Nat.le_add_right _ _)) z2
                have d3 := HN1.out.far _ (HN1.out.lenT HE0.out) hgrow (p := ⟨bx, ox + k * 3 + 2, none⟩) (show bx < w.heap.size + 3 from Nat.lt_of_lt_of_le hbxl (Nat.le_add_right _ _)) z3
                rw [show w.heap.size + 2 = K from HK.out.symm] at m1 f1
                refine hK.out _ _ (fun _ => by exact ⟨m1, d1, d2, d3⟩) ?_
                clear hK K'
                refine wpAnyT_one (i := 29) (by kernel_rfl) rfl rfl (fun K' hK => ?_)
                go_simp
                refine hK.out _ _ (fun _ => by exact ⟨m1, d1, d2, d3⟩) ?_
                clear hK K'
                refine wpAnyT_one (i := 30) (by kernel_rfl) rfl rfl (fun K' hK => ?_)
                go_simp
                refine hK.out _ _ (fun h => absurd rfl h) ?_
                clear hK K'
                refine wpAnyT_done (by kernel_rfl) ?_ _
                have hfin := HN1.out.tie (x := ⟨x, p1, q, cx⟩) hgrow (by rw [HE0.out]; exact hown')
                have hfin2 : Nf w (w6.setCell ⟨K, 5, none⟩ (.slice a' (k + 1) c')) rw0 (tieN bn Ls (Ts ++ [⟨x, p1, q, cx⟩])) b l (.slice none 0 0) (.slice none 0 0) (.slice a' (k + 1) c') := by
                  rw [HK.out]
                  exact hfin
                have hok : TieOk bn Ts.length ⟨x, p1, q, cx⟩ := by
                  refine ⟨?_, ?_, ?_, ?_, ?_, ?_⟩
                  · rw [hlt2, ← HX.out]; rfl
                  · show (0 : Int) ≤ p1; omega
                  · show (p1 : Int) < bn; omega
                  · show (0 : Int) ≤ q; omega
                  · show (q : Int) < bn; omega
                  · show (p1 : Int) ≠ q; omega
                have HF := hide' hfin2
                have HA3 := hide' (HA2.out.snoc hok)
                clear hfin hfin2 hgrow hown' m1 f1 q51 b1 b2 b3 b4 q5 HN HN1 HD HSZ d1 d2 d3 z1 z2 z3 y1 y2 hq1 hq2 hwr1 hwr2 hwr3 hok HX
                go_wp2
                exact ⟨⟨k + 1, _, _, by go_num, by simp [hlt2], by omega, HA3, HF⟩, by simp [intOf]; omega⟩
              · have hor : (k < n2 ∧ ¬ k < 8) ∨ ¬ k < n2 := by omega
                have HG := hide' (good_tieN hb8 HA.out HA2.out (by omega) (by omega))
                obtain ⟨ab, cb, rfl⟩ := own_slice HN.out.owns.hb
                obtain ⟨al, cl, rfl⟩ := own_slice HN.out.owns.hl
                obtain ⟨at5, ct5, rfl⟩ := own_slice HN.out.owns.ht
                have i0 : wr.cell? ⟨K, 0, none⟩ = some (.string ⟨#[110]⟩) := by rw [HK.out]; exact HN.out.cell 0 rfl
                have i1 : wr.cell? ⟨K, 1, none⟩ = some (.slice ab (tieN bn Ls Ts).buses.length cb) := by rw [HK.out]; exact HN.out.cell 1 rfl
                have i2 : wr.cell? ⟨K, 2, none⟩ = some (.slice al (tieN bn Ls Ts).lines.length cl) := by rw [HK.out]; exact HN.out.cell 2 rfl
                have i3 : wr.cell? ⟨K, 3, none⟩ = some (.slice none 0 0) := by rw [HK.out]; exact HN.out.cell 3 rfl
                have i4 : wr.cell? ⟨K, 4, none⟩ = some (.slice none 0 0) := by rw [HK.out]; exact HN.out.cell 4 rfl
                have i5 : wr.cell? ⟨K, 5, none⟩ = some (.slice at5 (tieN bn Ls Ts).ties.length ct5) := by rw [HK.out]; exact HN.out.cell 5 rfl
                obtain ⟨j0, j1, j2, j3, j4, j5, fj⟩ := cells28 HN.out.res
                obtain ⟨w2, hw2⟩ : ∃ w2, w2 = six wr (w.heap.size + 1) (.string ⟨#[110]⟩) (.slice ab (tieN bn Ls Ts).buses.length cb) (.slice al (tieN bn Ls Ts).lines.length cl) (.slice none 0 0) (.slice none 0 0) (.slice at5 (tieN bn Ls Ts).ties.length ct5) := ⟨_, rfl⟩
                have e1 : Below w.heap.size w w2 := by rw [hw2]; exact six_below HN.out.bel (Nat.le_succ _) _ _ _ _ _ _
                have e2 : w2.heap[w.heap.size + 1]? = some (.cells #[.string ⟨#[110]⟩, .slice ab (tieN bn Ls Ts).buses.length cb, .slice al (tieN bn Ls Ts).lines.length cl, .slice none 0 0, .slice none 0 0, .slice at5 (tieN bn Ls Ts).ties.length ct5] 32 (0, 0)) := by rw [hw2]; exact six_box HN.out.res _ _ _ _ _ _
                have e4 : Owns w2 w.heap.size (.slice ab (tieN bn Ls Ts).buses.length cb) (.slice al (tieN bn Ls Ts).lines.length cl) (.slice none 0 0) (.slice none 0 0) (.slice at5 (tieN bn Ls Ts).ties.length ct5) (tieN bn Ls Ts) := by
                  rw [hw2]
                  have o := HN.out.owns
                  exact ⟨own_base (six_own o.hb HN.out.res (by decide) _ _ _ _ _ _) (Nat.le_add_right _ _), own_base (six_own o.hl HN.out.res (by decide) _ _ _ _ _ _) (Nat.le_add_right _ _), own_base (six_own o.hg HN.out.res (by decide) _ _ _ _ _ _) (Nat.le_add_right _ _), own_base (six_own o.hd HN.out.res (by decide) _ _ _ _ _ _) (Nat.le_add_right _ _), own_base (six_own o.ht HN.out.res (by decide) _ _ _ _ _ _) (Nat.le_add_right _ _)⟩
                have HO := hide' e4
                have HE := hide' e1
                obtain ⟨g0, g1, g2, g3, g4, g5, _⟩ := cells28 e2
                unfold six at hw2
                have HW2 := hide' hw2
                clear e1 e2 e4 hw2 HN
                rcases hor with ⟨hk1, hk2⟩ | hk1
                all_goals
                  go_wp2
                  rw [← HW2.out]
                  refine bodyPost_ret (v := .agg #[.string ⟨#[110]⟩, .slice ab (tieN bn Ls Ts).buses.length cb, .slice al (tieN bn Ls Ts).lines.length cl, .slice none 0 0, .slice none 0 0, .slice at5 (tieN bn Ls Ts).ties.length ct5]) (by simp [results, Tryd.results4, go_sem, g0, g1, g2, g3, g4, g5]) rfl ?_
                  exact ⟨tieN bn Ls Ts, _, _, _, _, _, rfl, HG.out, HO.out, HE.out⟩
end Go.Proofs.YtefkgllanghmfabDoor
