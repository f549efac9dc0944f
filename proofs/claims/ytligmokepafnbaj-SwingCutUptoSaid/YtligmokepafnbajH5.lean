/- The stages are laid: some have shed ahead of the run. -/
import Derived.Test.YtligmokepafnbajH4
namespace Go.Proofs.Ytligmokepafnbaj
open Go.RowKit Go.Shelf

/-- a plain stage: its limit and its part -/
def sgc (s : Nat × Nat) : List Value := [.float .f64 s.1, .float .f64 s.2]
theorem sgc_len (s : Nat × Nat) : (sgc s).length = 2 := rfl

/-- the first k are laid -/
def laid (l : List (Nat × Nat)) (g : List Bool) (k : Nat) : List StM := ((l.zip g).take k).map (fun p => ⟨p.1.1, p.1.2, p.2⟩) ++ List.replicate (l.length - k) ⟨0, 0, false⟩
def atWorkS (l : List (Nat × Nat)) (g : List Bool) : List StM := (l.zip g).map fun p => ⟨p.1.1, p.1.2, p.2⟩

theorem Try.info69 : (Try.prog.info? 69).map (fun i => (i.zero, i.size, i.bytes)) = some (some (.agg #[.float .f64 0, .float .f64 0, .int .u32 0, .int .i32 0, .int .u32 0, .bool false]), 6, 32) := by kernel_rfl

theorem made_st (n : Nat) : (madeCells (Value.agg #[.float .f64 0, .float .f64 0, .int .u32 0, .int .i32 0, .int .u32 0, .bool false]).cells (n * 6)).toList = (List.replicate n (⟨0, 0, false⟩ : StM)).flatMap StM.cells := by
  apply List.ext_getElem
  · rw [flat_len StM.cells 6 StM.cells_len]; simp [madeCells]
  · intro i h1 h2
    have hl : i < n * 6 := by rw [flat_len StM.cells 6 StM.cells_len, List.length_replicate] at h2; exact h2
    have e := flat_get StM.cells 6 StM.cells_len (List.replicate n (⟨0, 0, false⟩ : StM)) (i / 6) (i % 6) (by rw [List.length_replicate]; omega) (Nat.mod_lt _ (by decide))
    rw [show i / 6 * 6 + i % 6 = i by omega, List.getElem?_eq_getElem h2, List.getElem_replicate] at e
    have h6 : i % 6 = 0 ∨ i % 6 = 1 ∨ i % 6 = 2 ∨ i % 6 = 3 ∨ i % 6 = 4 ∨ i % 6 = 5 := by omega
    refine Option.some.inj (Eq.trans ?_ e.symm)
    rcases h6 with h | h | h | h | h | h <;> simp [madeCells, Value.cells, StM.cells, h]

theorem row_cells6 {w : World} {B e g n : Nat} {xs : List Value} (h : w.ownsRow B e 6 (.slice (some ⟨g, 0, none⟩) n n) n xs) : w.heap[g]? = some (.cells xs.toArray e (0, 0)) := by
  rcases h.2 with ⟨h1, _⟩ | ⟨g', cap, cur, h1, _, h2, _, _, h3, h4⟩
  · cases h1
  · cases h1
    rw [h2]
    have e1 : cur = xs.toArray := by
      apply Array.ext'
      rw [← h4, List.take_of_length_le (by simp; omega)]
    rw [e1]

theorem laid_len (l : List (Nat × Nat)) (g : List Bool) (k : Nat) (hg : g.length = l.length) (hk : k ≤ l.length) : (laid l g k).length = l.length := by
  simp [laid]; omega
theorem laid_next {l : List (Nat × Nat)} {g : List Bool} {k : Nat} (hg : g.length = l.length) (hk : k < l.length) : laid l g (k + 1) = (laid l g k).set k ⟨l[k].1, l[k].2, g[k]⟩ := by
  have hz : k < (l.zip g).length := by rw [List.length_zip]; omega
  have h : (((l.zip g).take k).map fun p => (⟨p.1.1, p.1.2, p.2⟩ : StM)).length = k := by rw [List.length_map, List.length_take]; omega
  unfold laid
  rw [List.set_append_right _ _ (by omega), h, Nat.sub_self, List.take_add_one, List.getElem?_eq_getElem hz, List.map_append, List.append_assoc, List.getElem_zip]
  congr 1
  rw [show l.length - k = (l.length - (k + 1)) + 1 by omega, List.replicate_succ, List.set_cons_zero]
  rfl
theorem laid_at {l : List (Nat × Nat)} {g : List Bool} {k : Nat} (hg : g.length = l.length) (hk : k < l.length) : (laid l g k)[k]'(by rw [laid_len l g k hg (Nat.le_of_lt hk)]; exact hk) = ⟨0, 0, false⟩ := by
  have h : (((l.zip g).take k).map fun p => (⟨p.1.1, p.1.2, p.2⟩ : StM)).length = k := by rw [List.length_map, List.length_take, List.length_zip]; omega
  unfold laid
  rw [List.getElem_append_right (by omega), List.getElem_replicate]
theorem laid_zero (l : List (Nat × Nat)) (g : List Bool) : laid l g 0 = List.replicate l.length ⟨0, 0, false⟩ := by simp [laid]
theorem laid_all (l : List (Nat × Nat)) (g : List Bool) (hg : g.length = l.length) : laid l g l.length = atWorkS l g := by
  unfold laid atWorkS
  rw [List.take_of_length_le (by rw [List.length_zip]; omega), Nat.sub_self, List.replicate_zero, List.append_nil]

/-- a stage's floats are stored -/
theorem SAt.put {w : World} {K : Nat} {S : List StM} (h : SAt w K S) {k : Nat} (hk : k < S.length) (a b : Nat) : SAt ((w.setCell ⟨K, k * 6, none⟩ (.float .f64 a)).setCell ⟨K, k * 6 + 1, none⟩ (.float .f64 b)) K (S.set k ⟨a, b, S[k].gone⟩) := by
  have h1 := set_any (set_any h (k * 6) (.float .f64 a)) (k * 6 + 1) (.float .f64 b)
  unfold SAt
  rw [h1]
  congr 2
  simp only [List.setIfInBounds_toArray]
  congr 1
  rw [flat_parts hk, flat_put hk]
  have e0 := set_in ((S.take k).flatMap StM.cells) S[k].cells ((S.drop (k + 1)).flatMap StM.cells) (k * 6) 0 (.float .f64 a) (flat_head hk) (by simp [StM.cells])
  simp only [Nat.add_zero] at e0
  rw [e0, set_in _ _ _ _ _ _ (flat_head hk) (by simp [StM.cells])]
  rfl

theorem run_store_float (P : Program) (w : World) (a : Addr) (m : Mode) (k : FloatKind) (b : Nat) : (store a (.float k b) m).run P w = stored P w a (.float k b) m := run_store P w a _ m rfl
attribute [local go_sem] run_store_float

set_option maxRecDepth 100000 in
set_option maxHeartbeats 1600000 in
theorem atWork_any (l : List (Nat × Nat)) (g : List Bool) (v u : Value) (w : World) (hv : RowAt w v l.length 2 (l.flatMap sgc)) (hu : RowAt w u l.length 1 (g.map Value.bool)) (hg : g.length = l.length) (hn : l.length ≤ 1000) :
    Calls Try.prog 20 #[v, u] w fun e w' => e = .returned (.slice (some ⟨w.heap.size, 0, none⟩) l.length l.length) ∧ SAt w' w.heap.size (atWorkS l g) ∧ Below w.heap.size w w' := by
  obtain ⟨i6, hi6, h60, h61, h62⟩ := info_parts Try.info69
  have HV := hide' hv
  have HU := hide' hu
  obtain ⟨a, ca, rfl⟩ := rowAt_slice hv
  obtain ⟨b, cb, rfl⟩ := rowAt_slice hu
  clear hv hu
  go_enter Try.func20, Try.ntmps20
  go_wp2_with (at_make; refine wpList_make_full _ rfl _ _ 50 rfl w.heap.size 69 i6 _ 6 Try.underlying50 hi6 h60 h61 .i64 .i64 _ _ l.length rfl rfl rfl rfl (by rw [h62]; omega) (by unfold maxLen; omega) (Nat.le_refl _) ?_; intro w1 hown1 hgr1; refine Still.go ?_)
  unfold Still
  have HO1 : Hid (SAt w1 w.heap.size (laid l g 0)) := by
    have h1 := row_cells6 hown1
    rw [made_st] at h1
    show SAt _ _ _
    rw [laid_zero]
    exact h1
  have HB1 : Hid (Below w.heap.size w w1) := (Below.refl _ w).grown hgr1 (Nat.le_refl _) (fun k e => by cases e)
  obtain ⟨G, hG⟩ : ∃ G, G = w.heap.size := ⟨_, rfl⟩
  have HG := hide' hG
  rw [← hG] at HO1 hown1
  simp only [← hG]
  clear hown1 hgr1 hG
  go_wp2_with fail
  go_loopw [12] (fun i wr => ∃ (k : Nat), i = .int .i64 k ∧ k ≤ l.length ∧ Hid (SAt wr G (laid l g k)) ∧ Hid (Below G w wr)) (fun i _ => l.length - (intOf i).toNat)
  case atStart => exact ⟨0, rfl, Nat.zero_le _, HO1.out, by rw [HG.out]; exact HB1.out⟩
  case round =>
    obtain ⟨k, rfl, hk, HA, HBE⟩ := hrel
    by_cases hlt : k < l.length
    · have HBW : Hid (Below w.heap.size w wr) := by show Below _ _ _; rw [← HG.out]; exact HBE.out
      obtain ⟨b1, o1, c1, ex1, hb1, hc1⟩ := row_elem sgc_len HV.out k hlt (by decide)
      cases ex1
      have p0 : wr.cell? ⟨b1, o1 + k * 2, none⟩ = some (.float .f64 l[k].1) := up_cell HBW.out (hc1 0 _ rfl)
      have p1 : wr.cell? ⟨b1, o1 + k * 2 + 1, none⟩ = some (.float .f64 l[k].2) := up_cell HBW.out (hc1 1 _ rfl)
      obtain ⟨b2, o2, c2, ex2, hb2, hc2⟩ := Row1.cell HU.out k (by omega)
      cases ex2
      have p2 := up_cell HBW.out hc2
      have hlt2 : k < (laid l g k).length := by rw [laid_len _ _ _ hg hk]; exact hlt
      have z0 : wr.cell? ⟨G, k * 6, none⟩ = some (.float .f64 0) := HA.out.cell hlt2 (j := 0) (by rw [laid_at hg hlt]; rfl)
      have z1 : wr.cell? ⟨G, k * 6 + 1, none⟩ = some (.float .f64 0) := HA.out.cell hlt2 (j := 1) (by rw [laid_at hg hlt]; rfl)
      have f0 := HA.out.thaw (k * 6)
      have f1 := HA.out.thaw (k * 6 + 1)
      have HP := hide' (HA.out.put hlt2 l[k].1 l[k].2)
      have HBP : Hid (Below G w ((wr.setCell ⟨G, k * 6, none⟩ (.float .f64 l[k].1)).setCell ⟨G, k * 6 + 1, none⟩ (.float .f64 l[k].2))) := Below.setCell (p := ⟨G, k * 6 + 1, none⟩) (Below.setCell (p := ⟨G, k * 6, none⟩) HBE.out (Nat.le_refl _) _) (Nat.le_refl _) _
      have HNX := hide' (laid_next hg hlt)
      rw [laid_at hg hlt] at HP
      have hgk : g.getD k false = g[k]'(by omega) := by rw [List.getD_eq_getElem?_getD, List.getElem?_eq_getElem (by omega)]; rfl
      rw [hgk] at p2
      have p3 : ((wr.setCell ⟨G, k * 6, none⟩ (.float .f64 l[k].1)).setCell ⟨G, k * 6 + 1, none⟩ (.float .f64 l[k].2)).cell? ⟨b2, o2 + k, none⟩ = some (.bool (g[k]'(by omega))) := by
        refine (HBP.out.cell ?_).trans ?_
        · show b2 < G
          rw [HG.out]; exact hb2
        · exact hc2.trans (by rw [hgk])
      clear hc1 hc2 hb1 hb2 hgk HA HBE HBW
      have HSH : Hid (Calls Try.prog 26 #[.pointer (some ⟨G, k * 6, none⟩)] ((wr.setCell ⟨G, k * 6, none⟩ (.float .f64 l[k].1)).setCell ⟨G, k * 6 + 1, none⟩ (.float .f64 l[k].2)) fun e w' => e = .returned (.tuple #[]) ∧ SAt w' G ((laid l g k).set k ⟨l[k].1, l[k].2, true⟩) ∧ But G ((wr.setCell ⟨G, k * 6, none⟩ (.float .f64 l[k].1)).setCell ⟨G, k * 6 + 1, none⟩ (.float .f64 l[k].2)) w') := by
        refine (shed_any G k _ _ HP.out (by rw [List.length_set]; exact hlt2)).mono ?_
        rintro e w2 ⟨rfl, h2, h3⟩
        refine ⟨rfl, ?_, h3⟩
        rw [List.getElem_set_self, List.set_set] at h2
        exact h2
      obtain ⟨x, hx⟩ : ∃ x, x = l[k].1 := ⟨_, rfl⟩
      obtain ⟨y, hy⟩ : ∃ y, y = l[k].2 := ⟨_, rfl⟩
      obtain ⟨z, hz⟩ : ∃ z, z = g[k]'(by omega) := ⟨_, rfl⟩
      rw [← hx] at p0
      rw [← hy] at p1
      rw [← hx, ← hy] at HSH HP HBP p3
      rw [← hz] at p2 p3
      rw [← hx, ← hy, ← hz] at HNX
      clear hx hy hz hlt2
      cases z with
      | false =>
        clear HSH
        go_wp2
        go_roundw
        case rel => exact ⟨k + 1, by go_num, by omega, by show SAt _ _ _; rw [HNX.out]; exact HP.out, HBP.out⟩
        case measure => simp [intOf]; omega
      | true =>
        go_wp2_with (go_at_call 26; refine HSH.out.mono ?_; rintro e w2 ⟨rfl, hs2, hb2⟩; have HS2 := hide' hs2; have HB2 := hide' hb2; clear hs2 hb2)
        go_roundw
        case rel => exact ⟨k + 1, by go_num, by omega, by show SAt _ _ _; rw [HNX.out]; exact HS2.out, HBP.out.trans ⟨HB2.out.os, HB2.out.tape, HB2.out.output, HB2.out.size, fun j hj => HB2.out.block j (Nat.lt_of_lt_of_le hj (Nat.le_trans (Nat.le_of_eq HG.out) HBP.out.size)) (Nat.ne_of_lt hj)⟩⟩
        case measure => simp [intOf]; omega
    · have hk3 : k = l.length := by omega
      have HE : Hid (SAt wr G (atWorkS l g)) := by show SAt _ _ _; rw [← laid_all l g hg, ← hk3]; exact HA.out
      clear HA hk3
      go_wp2
      go_ret
      rw [← HG.out]
      exact ⟨rfl, HE.out, HBE.out⟩
end Go.Proofs.Ytligmokepafnbaj
