/- Whether a world may be, and how it wakes, in the program. -/
import Derived.Test.YtpbalclhdhjnoaaGreatDoorWk4
namespace Go.Proofs.YtpbalclhdhjnoaaGreatDoor.Bar
open Go.RowKit Go.Shelf Doc

/-- The buses that start, as the document comes to them. -/
def srcL (gs : List GenM) (on black : List Bool) : Nat → List Nat
  | 0 => []
  | k + 1 => match gs[k]? with
    | some g => if on.getD k false && black.getD k false then srcL gs on black k ++ [g.bus.toNat] else srcL gs on black k
    | none => srcL gs on black k
/-- The buses that start, as signs. -/
def stL (n : Nat) (gs : List GenM) (on black : List Bool) : Nat → List Bool
  | 0 => List.replicate n false
  | k + 1 => match gs[k]? with
    | some g => if on.getD k false && black.getD k false then (stL n gs on black k).set g.bus.toNat true else stL n gs on black k
    | none => stL n gs on black k
theorem srcL_no {gs : List GenM} {on black : List Bool} {k : Nat} {g : GenM} (hk : gs[k]? = some g) (h : (on.getD k false && black.getD k false) = false) : srcL gs on black (k + 1) = srcL gs on black k := by
  rw [srcL, hk]
  simp only
  rw [if_neg (by rw [h]; decide)]
theorem srcL_yes {gs : List GenM} {on black : List Bool} {k : Nat} {g : GenM} (hk : gs[k]? = some g) (h : (on.getD k false && black.getD k false) = true) : srcL gs on black (k + 1) = srcL gs on black k ++ [g.bus.toNat] := by
  rw [srcL, hk]
  simp only
  rw [if_pos h]
theorem stL_no {n : Nat} {gs : List GenM} {on black : List Bool} {k : Nat} {g : GenM} (hk : gs[k]? = some g) (h : (on.getD k false && black.getD k false) = false) : stL n gs on black (k + 1) = stL n gs on black k := by
  rw [stL, hk]
  simp only
  rw [if_neg (by rw [h]; decide)]
theorem stL_yes {n : Nat} {gs : List GenM} {on black : List Bool} {k : Nat} {g : GenM} (hk : gs[k]? = some g) (h : (on.getD k false && black.getD k false) = true) : stL n gs on black (k + 1) = (stL n gs on black k).set g.bus.toNat true := by
  rw [stL, hk]
  simp only
  rw [if_pos h]
theorem stL_len (n : Nat) (gs : List GenM) (on black : List Bool) : ∀ k, (stL n gs on black k).length = n
  | 0 => List.length_replicate
  | k + 1 => by
    rw [stL]
    split
    · split
      · rw [List.length_set, stL_len n gs on black k]
      · exact stL_len n gs on black k
    · exact stL_len n gs on black k
theorem st_src (n : Nat) (gs : List GenM) (on black : List Bool) (b : Nat) (hb : b < n) : ∀ k, ((stL n gs on black k).getD b false = true ↔ b ∈ srcL gs on black k)
  | 0 => by
    show (List.replicate n false).getD b false = true ↔ b ∈ ([] : List Nat)
    simp [List.getD_eq_getElem?_getD, hb]
  | k + 1 => by
    have ih := st_src n gs on black b hb k
    rcases hk : gs[k]? with _ | g
    · rw [stL, srcL, hk]
      exact ih
    · rcases hc : (on.getD k false && black.getD k false) with _ | _
      · rw [stL_no hk hc, srcL_no hk hc]
        exact ih
      · rw [stL_yes hk hc, srcL_yes hk hc, List.mem_append, List.mem_singleton, ← ih, List.getD_eq_getElem?_getD, List.getElem?_set]
        by_cases e : g.bus.toNat = b
        · rw [if_pos e, if_pos (by rw [stL_len, e]; exact hb)]
          simp [e]
        · rw [if_neg e, ← List.getD_eq_getElem?_getD]
          constructor
          · exact .inl
          · rintro (h | h)
            · exact h
            · exact absurd h.symm e
/-- A world in its box, and a row of signs that is stored into. -/
structure ST (w wr : World) (Wb F n : Nat) (wv : Array Value) (l : List Bool) : Prop where
  hW : wr.heap[Wb]? = some (.cells wv 33 (0, 0))
  hF : wr.heap[F]? = some (.cells (l.map Value.bool).toArray 4 (0, 0))
  len : l.length = n
  sF : w.heap.size ≤ F
  bel : Below w.heap.size w wr
theorem ST.more {w wr w' : World} {Wb F n : Nat} {wv : Array Value} {l : List Bool} (h : ST w wr Wb F n wv l) (hb : Below wr.heap.size wr w') : ST w w' Wb F n wv l :=
  ⟨(hb.block Wb (lt_heap h.hW)).trans h.hW, (hb.block F (lt_heap h.hF)).trans h.hF, h.len, h.sF, h.bel.trans (hb.mono h.bel.size)⟩
theorem ST.cell {w wr : World} {Wb F n : Nat} {wv : Array Value} {l : List Bool} (h : ST w wr Wb F n wv l) {k : Nat} (hk : k < n) : wr.cell? ⟨F, k, none⟩ = some (.bool (l.getD k false)) ∧ wr.frozen? ⟨F, k, none⟩ = false := by
  refine ⟨?_, frozen_no h.hF _⟩
  rw [cells_at h.hF]
  simp [List.getElem?_map, List.getElem?_eq_getElem (show k < l.length by rw [h.len]; exact hk), List.getD_eq_getElem?_getD]
theorem ST.set {w wr : World} {Wb F n : Nat} {wv : Array Value} {l : List Bool} (h : ST w wr Wb F n wv l) (k : Nat) : ST w (wr.setCell ⟨F, k, none⟩ (.bool true)) Wb F n wv (l.set k true) := by
  refine ⟨(keep_set h.hF k (.bool true) _ _ _ _ h.hW (by decide)).trans h.hW, ?_, by rw [List.length_set]; exact h.len, h.sF, h.bel.setCell (p := ⟨F, k, none⟩) h.sF _⟩
  have h1 := set_any h.hF k (.bool true)
  rw [List.map_set]
  simpa using h1
set_option maxRecDepth 100000 in
set_option maxHeartbeats 4000000 in
theorem starting_any (W : WorldM) (a : WAddr) (n : Nat) (hn : n = W.net.buses.length) (hf : Fits W.net) (hgb : ∀ g ∈ W.net.gens, 0 ≤ g.bus ∧ g.bus < n) (hon : W.on.length = W.net.gens.length) (black : List Bool) (la : Option Addr) (lc : Nat) (w : World) (hw : WorldAt w W a) (hl : RowAt w (.slice la W.net.gens.length lc) W.net.gens.length 1 (black.map Value.bool)) :
    Calls Tryz.prog 11 #[.agg #[.string W.net.name, .slice a.ab W.net.buses.length a.cb, .slice a.al W.net.lines.length a.cl, .slice a.ag W.net.gens.length a.cg, .slice a.ad W.net.loads.length a.cd, .slice a.at' W.net.ties.length a.ct, .slice a.ao W.out.length a.co, .slice a.an W.on.length a.cn, .slice a.ap W.plan.length a.cp, .slice a.av W.given.length a.cv, .int .i64 W.now, .slice a.ae W.log.length a.ce], .slice la W.net.gens.length lc] w fun e w' => ∃ F, e = .returned (.slice (some ⟨F, 0, none⟩) n n) ∧ w'.heap[F]? = some (.cells ((stL n W.net.gens W.on black W.net.gens.length).map Value.bool).toArray 4 (0, 0)) ∧ w.heap.size ≤ F ∧ Below w.heap.size w w' := by
  obtain ⟨i4, hi4, h40, h41, h42⟩ := info_parts info4W
  have hn16 : n ≤ 16 := by rw [hn]; exact hf.1
  have hG12 : W.net.gens.length ≤ 12 := hf.2.2.1
  have HGB := hide' hgb
  have HON := hide' hon
  obtain ⟨ab, al, ag, ad, at', ao, an, ap, av, ae, cb, cl, cg, cd, ct, co, cn, cp, cv, ce⟩ := a
  dsimp only
  have HGR : Hid (RowAt w (.slice ag W.net.gens.length cg) W.net.gens.length 5 (W.net.gens.flatMap GenM.cells)) := hw.g
  have HNR : Hid (RowAt w (.slice an W.on.length cn) W.on.length 1 (W.on.map Value.bool)) := hw.n
  have HLV := hide' hl
  have HN := hide' hn
  clear hf hgb hon hw hl
  rw [← hn]
  clear hn
  go_enter Tryz.func11, Tryz.ntmps11
  go_upto_region 1 with fail
  have hqWb := alloc_new w (.cells #[.string W.net.name, .slice ab n cb, .slice al W.net.lines.length cl, .slice ag W.net.gens.length cg, .slice ad W.net.loads.length cd, .slice at' W.net.ties.length ct, .slice ao W.out.length co, .slice an W.on.length cn, .slice ap W.plan.length cp, .slice av W.given.length cv, .int .i64 W.now, .slice ae W.log.length ce] 33)
  have hb1 := below_al w (.cells #[.string W.net.name, .slice ab n cb, .slice al W.net.lines.length cl, .slice ag W.net.gens.length cg, .slice ad W.net.loads.length cd, .slice at' W.net.ties.length ct, .slice ao W.out.length co, .slice an W.on.length cn, .slice ap W.plan.length cp, .slice av W.given.length cv, .int .i64 W.now, .slice ae W.log.length ce] 33)
  obtain ⟨w1, hw1⟩ : ∃ x, x = (w.alloc (.cells #[.string W.net.name, .slice ab n cb, .slice al W.net.lines.length cl, .slice ag W.net.gens.length cg, .slice ad W.net.loads.length cd, .slice at' W.net.ties.length ct, .slice ao W.out.length co, .slice an W.on.length cn, .slice ap W.plan.length cp, .slice av W.given.length cv, .int .i64 W.now, .slice ae W.log.length ce] 33)) := ⟨_, rfl⟩
  rw [← hw1] at hqWb hb1 ⊢
  obtain ⟨Wb, hnWb⟩ : ∃ x, x = w.heap.size := ⟨_, rfl⟩
  have HNE : Hid (w.heap.size ≤ Wb) := by show _ ≤ _; omega
  rw [← hnWb] at hqWb
  rw [show (Value.pointer (some { block := w.heap.size, off := 0 })) = Value.pointer (some { block := Wb, off := 0 }) by rw [hnWb]]
  have HQWb := hide' hqWb
  have HB1 := hide' hb1
  clear hqWb hb1 hw1 hnWb
  have g1 : w1.cell? ⟨Wb, 1, none⟩ = some (.slice ab n cb) := (cells_at HQWb.out 1).trans rfl
  go_wp2_with (at_make; refine wpList_make_full _ rfl _ _ 29 rfl w1.heap.size 4 i4 (.bool false) 1 Tryz.underlying29 hi4 h40 h41 .i64 .i64 _ _ n rfl rfl rfl rfl (by rw [h42]; omega) (by unfold maxLen; omega) (Nat.le_refl _) ?_; intro w2 hown hgr; refine Still.go ?_)
  unfold Still
  have hb2 : Below w1.heap.size w1 w2 := (Below.refl _ w1).grown hgr (Nat.le_refl _) (fun k e => by cases e)
  obtain ⟨F, hF⟩ : ∃ x, x = w1.heap.size := ⟨_, rfl⟩
  have HS2 : Hid (ST w w2 Wb F n #[.string W.net.name, .slice ab n cb, .slice al W.net.lines.length cl, .slice ag W.net.gens.length cg, .slice ad W.net.loads.length cd, .slice at' W.net.ties.length ct, .slice ao W.out.length co, .slice an W.on.length cn, .slice ap W.plan.length cp, .slice av W.given.length cv, .int .i64 W.now, .slice ae W.log.length ce] (stL n W.net.gens W.on black 0)) := by
    refine ⟨(hb2.block Wb (lt_heap HQWb.out)).trans HQWb.out, ?_, List.length_replicate, by rw [hF]; exact HB1.out.size, HB1.out.trans (hb2.mono HB1.out.size)⟩
    have h1 := row_cells hown
    rw [made_bool] at h1
    show w2.heap[F]? = some (.cells ((List.replicate n false).map Value.bool).toArray 4 (0, 0))
    rw [hF, List.map_replicate]
    exact h1
  rw [← hF]
  have g3 : w2.cell? ⟨Wb, 3, none⟩ = some (.slice ag W.net.gens.length cg) := (cells_at HS2.out.hW 3).trans rfl
  clear hown hgr hb2 hF g1 HQWb HB1
  go_wp2_with fail
  clear g3
  go_loopw [17] (fun iv wr => ∃ (k : Nat), iv = .int .i64 k ∧ k ≤ W.net.gens.length ∧ Hid (ST w wr Wb F n #[.string W.net.name, .slice ab n cb, .slice al W.net.lines.length cl, .slice ag W.net.gens.length cg, .slice ad W.net.loads.length cd, .slice at' W.net.ties.length ct, .slice ao W.out.length co, .slice an W.on.length cn, .slice ap W.plan.length cp, .slice av W.given.length cv, .int .i64 W.now, .slice ae W.log.length ce] (stL n W.net.gens W.on black k))) (fun iv _ => W.net.gens.length - (intOf iv).toNat)
  case atStart => exact ⟨0, rfl, Nat.zero_le _, HS2.out⟩
  case round =>
    clear HS2
    obtain ⟨k, rfl, hk, HO⟩ := hrel
    by_cases hkl : k < W.net.gens.length
    · obtain ⟨rb, ro, rc, exr, _, hrow⟩ := row_elem (f := GenM.cells) (fun _ => rfl) HGR.out k hkl (by decide)
      obtain ⟨l, hlk⟩ : ∃ l, l = W.net.gens[k] := ⟨_, rfl⟩
      have HLK : Hid (W.net.gens[k]? = some l) := by show _ = _; rw [hlk]; exact List.getElem?_eq_getElem hkl
      obtain ⟨h1, h2⟩ := HGB.out l (by rw [hlk]; exact List.getElem_mem hkl)
      rw [← hlk] at hrow
      obtain ⟨nm, bu, le, mo, co'⟩ := l
      obtain ⟨p, rfl⟩ := Int.eq_ofNat_of_zero_le h1
      have hp : p < n := by simp only at h2; omega
      simp only [Value.slice.injEq] at exr
      obtain ⟨rfl, _, rfl⟩ := exr
      have c0 : wr.cell? ⟨rb, ro + k * 5, none⟩ = some (.string nm) := up_cell HO.out.bel (hrow 0 _ rfl)
      have c1 : wr.cell? ⟨rb, ro + k * 5 + 1, none⟩ = some (.int .i64 (p : Int)) := up_cell HO.out.bel (hrow 1 _ rfl)
      have c2 : wr.cell? ⟨rb, ro + k * 5 + 2, none⟩ = some (.int .i64 le) := up_cell HO.out.bel (hrow 2 _ rfl)
      have c3 : wr.cell? ⟨rb, ro + k * 5 + 3, none⟩ = some (.int .i64 mo) := up_cell HO.out.bel (hrow 3 _ rfl)
      have c4 : wr.cell? ⟨rb, ro + k * 5 + 4, none⟩ = some (.int .i64 co') := up_cell HO.out.bel (hrow 4 _ rfl)
      clear hrow h1 h2 hlk
      go_upto_region 5 with fail
      obtain ⟨D, hD⟩ : ∃ x, x = wr.heap.size := ⟨_, rfl⟩
      have hb4 := below_al wr (.cells #[.string nm, .int .i64 (p : Int), .int .i64 le, .int .i64 mo, .int .i64 co'] 46)
      have hn4 := alloc_new wr (.cells #[.string nm, .int .i64 (p : Int), .int .i64 le, .int .i64 mo, .int .i64 co'] 46)
      obtain ⟨w4, hw4⟩ : ∃ x, x = wr.alloc (.cells #[.string nm, .int .i64 (p : Int), .int .i64 le, .int .i64 mo, .int .i64 co'] 46) := ⟨_, rfl⟩
      rw [← hw4] at hb4 hn4 ⊢
      rw [← hD] at hn4 ⊢
      have HO4 := hide' (HO.out.more hb4)
      have d1 : w4.cell? ⟨D, 1, none⟩ = some (.int .i64 (p : Int)) := (cells_at hn4 1).trans rfl
      have g7 : w4.cell? ⟨Wb, 7, none⟩ = some (.slice an W.on.length cn) := (cells_at HO4.out.hW 7).trans rfl
      have hko : k < W.on.length := by rw [HON.out]; exact hkl
      obtain ⟨ob, oo, oc, exo, hoc⟩ := bool_cellW HNR.out k hko
      simp only [Value.slice.injEq] at exo
      obtain ⟨rfl, _, rfl⟩ := exo
      have o1 := up_cell HO4.out.bel hoc
      obtain ⟨bb, bo, bc, exb, hbc⟩ := bool_cellW HLV.out k hkl
      simp only [Value.slice.injEq] at exb
      obtain ⟨rfl, _, rfl⟩ := exb
      have o2 := up_cell HO4.out.bel hbc
      obtain ⟨f1, f2⟩ := HO4.out.cell hp
      have HNO : Hid ((W.on.getD k false && black.getD k false) = false → stL n W.net.gens W.on black (k + 1) = stL n W.net.gens W.on black k) := fun h => stL_no HLK.out h
      have HYE : Hid ((W.on.getD k false && black.getD k false) = true → stL n W.net.gens W.on black (k + 1) = (stL n W.net.gens W.on black k).set p true) := fun h => stL_yes HLK.out h
      obtain ⟨x, hx⟩ : ∃ x, x = W.on.getD k false := ⟨_, rfl⟩
      obtain ⟨y, hy⟩ : ∃ x, x = black.getD k false := ⟨_, rfl⟩
      rw [← hx] at o1 HNO HYE
      rw [← hy] at o2 HNO HYE
      clear hn4 hw4 hD HO c0 c1 c2 c3 c4 hb4 hoc hbc hx hy
      cases x with
      | false =>
        have hnx := HO4.out
        rw [← HNO.out rfl] at hnx
        have HNX := hide' hnx
        clear hnx HO4
        go_wp2_with fail
        go_roundw
        case rel => exact ⟨k + 1, by go_num, by omega, HNX.out⟩
        case measure => simp only [intOf]; omega
      | true =>
        cases y with
        | false =>
          have hnx := HO4.out
          rw [← HNO.out rfl] at hnx
          have HNX := hide' hnx
          clear hnx HO4
          go_wp2_with fail
          go_roundw
          case rel => exact ⟨k + 1, by go_num, by omega, HNX.out⟩
          case measure => simp only [intOf]; omega
        | true =>
          have hnx := HO4.out.set p
          rw [← HYE.out rfl] at hnx
          have HNX := hide' hnx
          clear hnx HO4
          go_wp2_with fail
          go_roundw
          case rel => exact ⟨k + 1, by go_num, by omega, HNX.out⟩
          case measure => simp only [intOf]; omega
    · have hke : k = W.net.gens.length := by omega
      subst hke
      go_wp2_with fail
      go_ret
      exact ⟨F, rfl, HO.out.hF, HO.out.sF, HO.out.bel⟩
end Go.Proofs.YtpbalclhdhjnoaaGreatDoor.Bar
namespace Go.Proofs.YtpbalclhdhjnoaaGreatDoor.Bar
open Go.RowKit Go.Shelf Doc

theorem pigeonW : ∀ (n : Nat) (l : List Nat), l.Nodup → (∀ x ∈ l, x < n) → l.length ≤ n
  | 0, l, _, h => by
    cases l with
    | nil => exact Nat.le_refl _
    | cons x r => exact absurd (h x (List.mem_cons_self ..)) (Nat.not_lt_zero _)
  | n + 1, l, hd, h => by
    have h1 : (l.erase n).length ≤ n := pigeonW n (l.erase n) (hd.erase n) (fun x hx => by
      have h2 := (List.Nodup.mem_erase_iff hd).1 hx
      have := h x h2.2
      omega)
    have h3 := List.length_erase (a := n) (l := l)
    split at h3 <;> omega
theorem lvls_mem {n : Nat} {D : Nat → Nat} {m k : Nat} : k ∈ lvls n D m ↔ k < n ∧ D k < m := by
  unfold lvls
  rw [List.mem_flatMap]
  constructor
  · rintro ⟨i, hi, hk⟩
    obtain ⟨h1, h2⟩ := lvl_mem.1 hk
    have := List.mem_range.1 hi
    exact ⟨h1, by omega⟩
  · rintro ⟨h1, h2⟩
    exact ⟨D k, List.mem_range.2 h2, lvl_mem.2 ⟨h1, rfl⟩⟩
theorem lvls_nodup (n : Nat) (D : Nat → Nat) : ∀ m, (lvls n D m).Nodup
  | 0 => List.nodup_nil
  | m + 1 => by
    rw [lvls_succ]
    refine List.nodup_append.2 ⟨lvls_nodup n D m, (List.nodup_range).filter _, fun a ha b hb e => ?_⟩
    subst e
    have h1 := (lvls_mem.1 ha).2
    have h2 := (lvl_mem.1 hb).2
    omega
theorem lvls_len (n : Nat) (D : Nat → Nat) (m : Nat) : (lvls n D m).length ≤ n := pigeonW n _ (lvls_nodup n D m) (fun _x hx => (lvls_mem.1 hx).1)
/-- The buses of one distance, up to a number. -/
def lvlU (D : Nat → Nat) (i j : Nat) : List Nat := (List.range j).filter (fun k => D k == i)
theorem lvlU_yes {D : Nat → Nat} {i j : Nat} (h : D j = i) : lvlU D i (j + 1) = lvlU D i j ++ [j] := by
  unfold lvlU
  rw [List.range_succ, List.filter_append]
  simp [h]
theorem lvlU_no {D : Nat → Nat} {i j : Nat} (h : D j ≠ i) : lvlU D i (j + 1) = lvlU D i j := by
  unfold lvlU
  rw [List.range_succ, List.filter_append]
  simp [h]
theorem lvlU_len {n : Nat} {D : Nat → Nat} {i j : Nat} (hj : j ≤ n) : (lvls n D i ++ lvlU D i j).length ≤ n := by
  refine pigeonW n _ (List.nodup_append.2 ⟨lvls_nodup n D i, (List.nodup_range).filter _, fun a ha b hb e => ?_⟩) (fun x hx => ?_)
  · subst e
    have h1 := (lvls_mem.1 ha).2
    have h2 := (List.mem_filter.1 hb).2
    simp at h2
    omega
  · rcases List.mem_append.1 hx with hx | hx
    · exact (lvls_mem.1 hx).1
    · have := List.mem_range.1 (List.mem_filter.1 hx).1
      omega
def sliceLen : Value → Nat
  | .slice _ n _ => n
  | _ => 0
theorem own_len {w : World} {B e sz n : Nat} {v : Value} {xs : List Value} (h : w.ownsRow B e sz v n xs) : sliceLen v = n := by
  rcases h.2 with ⟨rfl, h0⟩ | ⟨g, c, cur, rfl, _⟩
  · exact h0.symm
  · rfl
/-- Signs that stand for a set of numbers. -/
def Says (n : Nat) (l : List Bool) (P : Nat → Prop) : Prop := l.length = n ∧ ∀ k, k < n → (l.getD k false = true ↔ P k)
theorem Says.has {n : Nat} {l : List Bool} {P : Nat → Prop} (h : Says n l P) : true ∈ l ↔ ∃ k, k < n ∧ P k := by
  constructor
  · intro hm
    obtain ⟨k, hk, he⟩ := List.getElem_of_mem hm
    have hkn : k < n := by rw [← h.1]; exact hk
    refine ⟨k, hkn, (h.2 k hkn).1 ?_⟩
    rw [List.getD_eq_getElem?_getD, List.getElem?_eq_getElem hk]
    exact he
  · rintro ⟨k, hk, hp⟩
    have h1 := (h.2 k hk).2 hp
    have hkl : k < l.length := by rw [h.1]; exact hk
    rw [List.getD_eq_getElem?_getD, List.getElem?_eq_getElem hkl] at h1
    have h2 : l[k] = true := h1
    rw [← h2]
    exact List.getElem_mem hkl
theorem Says.set {n : Nat} {l : List Bool} {P : Nat → Prop} (h : Says n l P) {j : Nat} (hj : j < n) : Says n (l.set j true) (fun k => P k ∨ k = j) := by
  refine ⟨by rw [List.length_set]; exact h.1, fun k hk => ?_⟩
  rw [List.getD_eq_getElem?_getD, List.getElem?_set]
  by_cases e : j = k
  · rw [if_pos e, if_pos (by rw [h.1]; exact hj)]
    exact ⟨fun _ => .inr e.symm, fun _ => rfl⟩
  · rw [if_neg e, ← List.getD_eq_getElem?_getD, h.2 k hk]
    exact ⟨.inl, fun h => h.resolve_right (fun e2 => e e2.symm)⟩
theorem Says.congr {n : Nat} {l : List Bool} {P Q : Nat → Prop} (h : Says n l P) (he : ∀ k, k < n → (P k ↔ Q k)) : Says n l Q := ⟨h.1, fun k hk => (h.2 k hk).trans (he k hk)⟩
/-- The next wave. -/
theorem next_says {n : Nat} {links : List LinkM} (hends : Ends n links) {src : Nat → Prop} {D : Nat → Nat} (hD : Dist n (fun u k => Adj links (u : Int) (k : Int)) src D) {i : Nat} (hi : i < n) {live : List Bool} (hl : Says n live (fun k => D k < i + 1)) : Says n (hopsL live (List.replicate n false) links) (fun k => D k = i + 1 ∧ i + 1 < n) := by
  refine ⟨by rw [hopsL_len, List.length_replicate], fun k hk => ?_⟩
  rw [hopsL_get links _ k List.length_replicate hends]
  refine Iff.trans ?_ (hD.next hi hk)
  have h0 : (List.replicate n false).getD k false = false := by simp [List.getD_eq_getElem?_getD, hk]
  have hlk := hl.2 k hk
  constructor
  · rintro (h | ⟨h1, u, hu, h2, h3⟩)
    · rw [h0] at h; cases h
    · refine ⟨fun h => ?_, u, hu, (hl.2 u hu).1 h2, h3⟩
      rw [hlk.2 h] at h1
      cases h1
  · rintro ⟨h1, u, hu, h2, h3⟩
    refine .inr ⟨?_, u, hu, (hl.2 u hu).2 h2, h3⟩
    rcases hx : live.getD k false with _ | _
    · rfl
    · exact absurd (hlk.1 hx) h1
/-- Rows of signs stay, but one. -/
def Keep4 (F : Nat) (w w' : World) : Prop := ∀ (k : Nat) (c : Array Value), w.heap[k]? = some (.cells c 4 (0, 0)) → k ≠ F → w'.heap[k]? = some (.cells c 4 (0, 0))
theorem Keep4.below {F : Nat} {w w' : World} (h : Below w.heap.size w w') : Keep4 F w w' := fun k _ hk _ => (h.block k (lt_heap hk)).trans hk
theorem Keep4.trans {F : Nat} {a b c : World} (h : Keep4 F a b) (h' : Keep4 F b c) : Keep4 F a c := fun k x hk hne => h' k x (h k x hk hne) hne
theorem Keep4.set {F : Nat} (w : World) (j : Nat) (x : Value) : Keep4 F w (w.setCell ⟨F, j, none⟩ x) := fun k _ hk hne => (Below.heap_setCell _ _ _ k hne).trans hk
theorem Keep4.ofE {F : Nat} {w w' : World} (h : KeepE 3 w w') : Keep4 F w w' := fun k _ hk _ => (h k _ _ _ hk (by decide)).trans hk
/-- A wave that stays. -/
def WaveAt (w wr : World) (F n : Nat) (v : Value) (wave : List Bool) : Prop := ∀ z, Below w.heap.size w z → Keep4 F wr z → RowAt z v n 1 (wave.map Value.bool)
theorem WaveAt.keep {w wr w' : World} {F n : Nat} {v : Value} {wave : List Bool} (h : WaveAt w wr F n v wave) (hk : Keep4 F wr w') : WaveAt w w' F n v wave := fun z hb hz => h z hb (hk.trans hz)
theorem WaveAt.now {w wr : World} {F n : Nat} {v : Value} {wave : List Bool} (h : WaveAt w wr F n v wave) (hb : Below w.heap.size w wr) : RowAt wr v n 1 (wave.map Value.bool) := h wr hb (fun _ _ hk _ => hk)
theorem row_signs {w : World} {F n : Nat} {l : List Bool} (h : w.heap[F]? = some (.cells (l.map Value.bool).toArray 4 (0, 0))) (hl : l.length = n) : RowAt w (.slice (some ⟨F, 0, none⟩) n n) n 1 (l.map Value.bool) := by
  refine ⟨by rw [List.length_map, hl, Nat.mul_one], some ⟨F, 0, none⟩, n, rfl, fun j u hj => ⟨F, 0, rfl, ?_⟩⟩
  rw [Nat.zero_add, cells_at h]
  simpa using hj
set_option maxRecDepth 100000 in
set_option maxHeartbeats 4000000 in
theorem spread_any (W : WorldM) (a : WAddr) (n : Nat) (hn : n = W.net.buses.length) (hf : Fits W.net) (he : EndsM W.net) (hol : W.out.length = W.net.lines.length) (src : Nat → Prop) (D : Nat → Nat) (hD : Dist n (fun u k => Adj (serviceL W.net W.out) (u : Int) (k : Int)) src D) (first : List Bool) (hfs : Says n first (fun k => D k = 0 ∧ 0 < n)) (la : Option Addr) (lc : Nat) (w : World) (hw : WorldAt w W a) (hl : RowAt w (.slice la n lc) n 1 (first.map Value.bool)) :
    Calls Tryz.prog 10 #[.agg #[.string W.net.name, .slice a.ab W.net.buses.length a.cb, .slice a.al W.net.lines.length a.cl, .slice a.ag W.net.gens.length a.cg, .slice a.ad W.net.loads.length a.cd, .slice a.at' W.net.ties.length a.ct, .slice a.ao W.out.length a.co, .slice a.an W.on.length a.cn, .slice a.ap W.plan.length a.cp, .slice a.av W.given.length a.cv, .int .i64 W.now, .slice a.ae W.log.length a.ce], .slice la n lc] w fun e w' => ∃ v, e = .returned v ∧ w'.ownsRow w.heap.size 3 1 v (lvls n D n).length (ints (natI (lvls n D n))) ∧ Below w.heap.size w w' := by
  obtain ⟨i4, hi4, h40, h41, h42⟩ := info_parts info4W
  obtain ⟨i3, hi3, h30, h31, h32⟩ := info_parts info3W
  have hn16 : n ≤ 16 := by rw [hn]; exact hf.1
  have HENDS : Hid (Ends n (serviceL W.net W.out)) := by show Ends _ _; rw [hn]; exact service_ends he _
  have HD := hide' hD
  have HNX : Hid (∀ z (live : List Bool) (la : Option Addr) (lc : Nat), Below w.heap.size w z → RowAt z (.slice la n lc) n 1 (live.map Value.bool) → Calls Tryz.prog 19 #[.agg #[.string W.net.name, .slice a.ab W.net.buses.length a.cb, .slice a.al W.net.lines.length a.cl, .slice a.ag W.net.gens.length a.cg, .slice a.ad W.net.loads.length a.cd, .slice a.at' W.net.ties.length a.ct, .slice a.ao W.out.length a.co, .slice a.an W.on.length a.cn, .slice a.ap W.plan.length a.cp, .slice a.av W.given.length a.cv, .int .i64 W.now, .slice a.ae W.log.length a.ce], .slice la n lc] z fun e w' => ∃ F, e = .returned (.slice (some ⟨F, 0, none⟩) n n) ∧ w'.heap[F]? = some (.cells ((hopsL live (List.replicate n false) (serviceL W.net W.out)).map Value.bool).toArray 4 (0, 0)) ∧ z.heap.size ≤ F ∧ Below z.heap.size z w') := fun z live la lc hb hr => onward_any W a n hn hf he hol live la lc z (hw.down hb) hr
  have HL := hide' hl
  have HFS := hide' hfs
  clear hf he hol hD hw hl hfs
  obtain ⟨ab, al, ag, ad, at', ao, an, ap, av, ae, cb, cl, cg, cd, ct, co, cn, cp, cv, ce⟩ := a
  dsimp only at HNX ⊢
  clear hn
  go_enter Tryz.func10, Tryz.ntmps10
  go_upto_region 2 with fail
  have hqWb := alloc_new w (.cells #[.string W.net.name, .slice ab W.net.buses.length cb, .slice al W.net.lines.length cl, .slice ag W.net.gens.length cg, .slice ad W.net.loads.length cd, .slice at' W.net.ties.length ct, .slice ao W.out.length co, .slice an W.on.length cn, .slice ap W.plan.length cp, .slice av W.given.length cv, .int .i64 W.now, .slice ae W.log.length ce] 33)
  have hb1 := below_al w (.cells #[.string W.net.name, .slice ab W.net.buses.length cb, .slice al W.net.lines.length cl, .slice ag W.net.gens.length cg, .slice ad W.net.loads.length cd, .slice at' W.net.ties.length ct, .slice ao W.out.length co, .slice an W.on.length cn, .slice ap W.plan.length cp, .slice av W.given.length cv, .int .i64 W.now, .slice ae W.log.length ce] 33)
  obtain ⟨w1, hw1⟩ : ∃ x, x = (w.alloc (.cells #[.string W.net.name, .slice ab W.net.buses.length cb, .slice al W.net.lines.length cl, .slice ag W.net.gens.length cg, .slice ad W.net.loads.length cd, .slice at' W.net.ties.length ct, .slice ao W.out.length co, .slice an W.on.length cn, .slice ap W.plan.length cp, .slice av W.given.length cv, .int .i64 W.now, .slice ae W.log.length ce] 33)) := ⟨_, rfl⟩
  rw [← hw1] at hqWb hb1 ⊢
  obtain ⟨Wb, hnWb⟩ : ∃ x, x = w.heap.size := ⟨_, rfl⟩
  have HNE : Hid (w.heap.size ≤ Wb) := by show _ ≤ _; omega
  rw [← hnWb] at hqWb
  rw [show (Value.pointer (some { block := w.heap.size, off := 0 })) = Value.pointer (some { block := Wb, off := 0 }) by rw [hnWb]]
  have HQWb := hide' hqWb
  have HB1 := hide' hb1
  clear hqWb hb1 hw1 hnWb
  go_wp2_with (at_make; refine wpList_make_full _ rfl _ _ 29 rfl w1.heap.size 4 i4 (.bool false) 1 Tryz.underlying29 hi4 h40 h41 .i64 .i64 _ _ n rfl rfl rfl rfl (by rw [h42]; omega) (by unfold maxLen; omega) (Nat.le_refl _) ?_; intro w2 hown hgr; refine Still.go ?_)
  unfold Still
  have hb2 : Below w1.heap.size w1 w2 := (Below.refl _ w1).grown hgr (Nat.le_refl _) (fun k e => by cases e)
  obtain ⟨F, hF⟩ : ∃ x, x = w1.heap.size := ⟨_, rfl⟩
  have HS2 : Hid (ST w w2 Wb F n #[.string W.net.name, .slice ab W.net.buses.length cb, .slice al W.net.lines.length cl, .slice ag W.net.gens.length cg, .slice ad W.net.loads.length cd, .slice at' W.net.ties.length ct, .slice ao W.out.length co, .slice an W.on.length cn, .slice ap W.plan.length cp, .slice av W.given.length cv, .int .i64 W.now, .slice ae W.log.length ce] (List.replicate n false)) := by
    refine ⟨(hb2.block Wb (lt_heap HQWb.out)).trans HQWb.out, ?_, List.length_replicate, by rw [hF]; exact HB1.out.size, HB1.out.trans (hb2.mono HB1.out.size)⟩
    have h1 := row_cells hown
    rw [made_bool] at h1
    rw [hF, List.map_replicate]
    exact h1
  rw [← hF]
  clear hown hgr hb2 hF HQWb HB1
  go_wp2_with fail
  have HW0 : Hid (WaveAt w w2 F n (.slice la n lc) first) := fun z hb _ => HL.out.down hb
  go_loopw [5, 7] (fun ov wv wr => ∃ (i : Nat) (wave live : List Bool) (wa : Option Addr) (wc : Nat), wv = .slice wa n wc ∧ i ≤ n ∧ Hid (Says n wave (fun k => D k = i ∧ i < n) ∧ Says n live (fun k => D k < i)) ∧ Hid (WaveAt w wr F n wv wave ∧ ST w wr Wb F n #[.string W.net.name, .slice ab W.net.buses.length cb, .slice al W.net.lines.length cl, .slice ag W.net.gens.length cg, .slice ad W.net.loads.length cd, .slice at' W.net.ties.length ct, .slice ao W.out.length co, .slice an W.on.length cn, .slice ap W.plan.length cp, .slice av W.given.length cv, .int .i64 W.now, .slice ae W.log.length ce] live) ∧ Hid (wr.ownsRow w.heap.size 3 1 ov (lvls n D i).length (ints (natI (lvls n D i))))) (fun ov _ _ => n - sliceLen ov)
  case atStart =>
    refine ⟨0, first, List.replicate n false, la, lc, rfl, Nat.zero_le _, ⟨HFS.out, List.length_replicate, fun k hk => ?_⟩, ⟨HW0.out, HS2.out⟩, World.ownsRow_nil _ _ _ _⟩
    have h0 : (List.replicate n false).getD k false = false := by simp [List.getD_eq_getElem?_getD, hk]
    rw [h0]
    exact ⟨fun h => (by cases h), fun h => absurd h (Nat.not_lt_zero _)⟩
  case round =>
    clear HS2 HW0 HL HFS
    obtain ⟨i, wave, live, wa, wc, rfl, hi, HSA, HWS, HOW⟩ := hrel
    have HCO := hide' (ContainsB_any wave (.slice wa n wc) wr (by rw [HSA.out.1.1]; exact HWS.out.1.now HWS.out.2.bel) (by rw [HSA.out.1.1]; omega))
    go_wp2_with fail
    refine HCO.out.mono ?_
    rintro e zz ⟨r, rfl, hr, hzz⟩
    rw [hzz]
    clear hzz zz HCO
    cases r with
    | false =>
      have HEND : Hid (lvls n D i = lvls n D n) := HD.out.all hi (fun k hk => by
        by_cases e : n ≤ i
        · exact .inr e
        · refine .inl fun h => ?_
          have h1 := hr.2 (HSA.out.1.has.2 ⟨k, hk, h, by omega⟩)
          cases h1)
      have HOF := hide' HOW.out
      rw [HEND.out] at HOF
      clear hr
      go_wp2_with fail
      go_ret
      exact ⟨_, rfl, HOF.out, HWS.out.2.bel⟩
    | true =>
      obtain ⟨k0, hk0, hk1, hk2⟩ := HSA.out.1.has.1 (hr.1 rfl)
      have HLT : Hid (1 ≤ (lvl n D i).length) := by
        have h1 : k0 ∈ lvl n D i := lvl_mem.2 ⟨hk0, hk1⟩
        exact List.length_pos_of_mem h1
      have HI2 : Hid (i < n) := hk2
      have HLO := hide' (own_len HOW.out)
      clear hr hk0 hk1 hk2
      go_wp2_with fail
      go_loopw [5, 21] (fun ov jv wr => ∃ (j : Nat) (live : List Bool), jv = .int .i64 j ∧ j ≤ n ∧ Hid (Says n live (fun k => D k < i ∨ (D k = i ∧ k < j))) ∧ Hid (WaveAt w wr F n (.slice wa n wc) wave ∧ ST w wr Wb F n #[.string W.net.name, .slice ab W.net.buses.length cb, .slice al W.net.lines.length cl, .slice ag W.net.gens.length cg, .slice ad W.net.loads.length cd, .slice at' W.net.ties.length ct, .slice ao W.out.length co, .slice an W.on.length cn, .slice ap W.plan.length cp, .slice av W.given.length cv, .int .i64 W.now, .slice ae W.log.length ce] live) ∧ Hid (wr.ownsRow w.heap.size 3 1 ov (lvls n D i ++ lvlU D i j).length (ints (natI (lvls n D i ++ lvlU D i j))))) (fun _ jv _ => n - (intOf jv).toNat)
      case atStart =>
        refine ⟨0, live, rfl, Nat.zero_le _, HSA.out.2.congr (fun k _ => ⟨.inl, fun h => h.resolve_right (fun h2 => absurd h2.2 (Nat.not_lt_zero _))⟩), HWS.out, ?_⟩
        rw [show lvlU D i 0 = [] from rfl, List.append_nil]
        exact HOW.out
      case round =>
        have HSW := hide' HSA.out.1
        clear HSA HWS HOW
        obtain ⟨j, live, rfl, hj, HSA, HWS, HOW⟩ := hrel
        by_cases hjn : j < n
        · obtain ⟨b1, o1, c1, ex1, hc1⟩ := bool_cellW (HWS.out.1.now HWS.out.2.bel) j hjn
          simp only [Value.slice.injEq] at ex1
          obtain ⟨rfl, _, rfl⟩ := ex1
          have hwj := HSW.out.2 j hjn
          rcases hx : wave.getD j false with _ | _
          · rw [hx] at hc1 hwj
            have hne : D j ≠ i := fun h => by
              have h1 := hwj.2 ⟨h, HI2.out⟩
              cases h1
            have HNX2 : Hid (Says n live (fun k => D k < i ∨ (D k = i ∧ k < j + 1))) := HSA.out.congr (fun k _ => by
              constructor
              · rintro (h | ⟨h1, h2⟩)
                · exact .inl h
                · exact .inr ⟨h1, by omega⟩
              · rintro (h | ⟨h1, h2⟩)
                · exact .inl h
                · refine .inr ⟨h1, ?_⟩
                  by_cases e : k = j
                  · rw [e] at h1; exact absurd h1 hne
                  · omega)
            have how := HOW.out
            rw [← lvlU_no hne] at how
            have HOW2 := hide' how
            clear how hx hwj hne HSA HOW
            go_wp2_with fail
            go_roundw
            case rel => exact ⟨j + 1, live, by go_num, by omega, HNX2.out, HWS.out, HOW2.out⟩
            case measure => simp only [intOf]; omega
          · rw [hx] at hc1 hwj
            have hyes : D j = i := (hwj.1 rfl).1
            have HNX2 : Hid (Says n (live.set j true) (fun k => D k < i ∨ (D k = i ∧ k < j + 1))) := (HSA.out.set hjn).congr (fun k _ => by
              constructor
              · rintro ((h | ⟨h1, h2⟩) | rfl)
                · exact .inl h
                · exact .inr ⟨h1, by omega⟩
                · exact .inr ⟨hyes, by omega⟩
              · rintro (h | ⟨h1, h2⟩)
                · exact .inl (.inl h)
                · by_cases e : k = j
                  · exact .inr e
                  · exact .inl (.inr ⟨h1, by omega⟩))
            obtain ⟨f1, f2⟩ := HWS.out.2.cell hjn
            have HWS2 : Hid (WaveAt w (wr.setCell ⟨F, j, none⟩ (.bool true)) F n (.slice (some ⟨b1, o1, none⟩) n wc) wave ∧ ST w (wr.setCell ⟨F, j, none⟩ (.bool true)) Wb F n #[.string W.net.name, .slice ab W.net.buses.length cb, .slice al W.net.lines.length cl, .slice ag W.net.gens.length cg, .slice ad W.net.loads.length cd, .slice at' W.net.ties.length ct, .slice ao W.out.length co, .slice an W.on.length cn, .slice ap W.plan.length cp, .slice av W.given.length cv, .int .i64 W.now, .slice ae W.log.length ce] (live.set j true)) := ⟨HWS.out.1.keep (Keep4.set wr j _), HWS.out.2.set j⟩
            have HOW2 : Hid ((wr.setCell ⟨F, j, none⟩ (.bool true)).ownsRow w.heap.size 3 1 u5 (lvls n D i ++ lvlU D i j).length (ints (natI (lvls n D i ++ lvlU D i j)))) := own_keepE HOW.out (keep_set HWS.out.2.hF j (.bool true)) (by decide)
            have HLE : Hid ((lvls n D i ++ lvlU D i j).length ≤ 16) := Nat.le_trans (lvlU_len hj) hn16
            have HLU := hide' (lvlU_yes hyes)
            clear hx hwj hyes HSA
            go_upto_region 11 with fail
            obtain ⟨wq, hwq⟩ : ∃ x, x = wr.setCell ⟨F, j, none⟩ (.bool true) := ⟨_, rfl⟩
            rw [← hwq] at HWS2 HOW2 ⊢
            clear hwq HWS HOW f1 f2 hc1
            go_wp2_with (at_builtin; refine wpList_append_own _ rfl _ _ 30 rfl w.heap.size 3 i3 (.int .i64 0) 1 8 Tryz.underlying30 hi3 h30 h31 h32 rfl (by decide) _ _ _ rfl (own_below HOW2.out (below_al _ _) (Nat.le_refl _)) ⟨wq.heap.size, 0, none⟩ 1 1 [.int .i64 (j : Int)] rfl rfl (cell_one_new _ _ _) (one_cell rfl) (by have := HLE.out; unfold maxLen; omega) (by have := HLE.out; omega) (Nat.le_trans HWS2.out.2.bel.size (below_al _ _).size) ?_; intro v' w8 hown' hgrow _; refine Still.go ?_)
            unfold Still
            have HKE : Hid (KeepE 3 wq w8) := (KeepE.alloc 3 wq _).trans (KeepE.grown (own_below HOW2.out (below_al _ _) (Nat.le_refl _)) hgrow)
            have HBE : Hid (Below w.heap.size w w8) := below_app HWS2.out.2.bel HOW2.out (Nat.le_refl _) HWS2.out.2.bel.size hgrow
            have HWS3 : Hid (WaveAt w w8 F n (.slice (some ⟨b1, o1, none⟩) n wc) wave ∧ ST w w8 Wb F n #[.string W.net.name, .slice ab W.net.buses.length cb, .slice al W.net.lines.length cl, .slice ag W.net.gens.length cg, .slice ad W.net.loads.length cd, .slice at' W.net.ties.length ct, .slice ao W.out.length co, .slice an W.on.length cn, .slice ap W.plan.length cp, .slice av W.given.length cv, .int .i64 W.now, .slice ae W.log.length ce] (live.set j true)) := ⟨HWS2.out.1.keep (Keep4.ofE HKE.out), (HKE.out _ _ _ _ HWS2.out.2.hW (by decide)).trans HWS2.out.2.hW, (HKE.out _ _ _ _ HWS2.out.2.hF (by decide)).trans HWS2.out.2.hF, HWS2.out.2.len, HWS2.out.2.sF, HBE.out⟩
            have HOW3 : Hid (w8.ownsRow w.heap.size 3 1 v' (lvls n D i ++ lvlU D i (j + 1)).length (ints (natI (lvls n D i ++ lvlU D i (j + 1))))) := by
              show World.ownsRow _ _ _ _ _ _ _
              rw [HLU.out, ← List.append_assoc, natI_snoc, List.length_append]
              exact hown'
            clear hown' hgrow HKE HBE HWS2 HOW2 HLE
            go_wp2_with fail
            go_roundw
            case rel => exact ⟨j + 1, live.set j true, by go_num, by omega, HNX2.out, HWS3.out, HOW3.out⟩
            case measure => simp only [intOf]; omega
        · have hje : j = n := by omega
          subst hje
          have HLV : Hid (Says j live (fun k => D k < i + 1)) := HSA.out.congr (fun k hk => by omega)
          have HRV := hide' (HNX.out wr live (some ⟨F, 0, none⟩) j HWS.out.2.bel (row_signs HWS.out.2.hF HWS.out.2.len))
          have how := HOW.out
          rw [show lvls j D i ++ lvlU D i j = lvls j D (i + 1) from (lvls_succ j D i).symm] at how
          have HOW2 := hide' how
          have HLN : Hid ((lvls j D (i + 1)).length = (lvls j D i).length + (lvl j D i).length) := by show _ = _; rw [lvls_succ, List.length_append]
          have HLB := hide' (lvls_len j D (i + 1))
          have q0 : wr.cell? ⟨Wb, 0, none⟩ = some (.string W.net.name) := (cells_at HWS.out.2.hW 0).trans rfl
          have q1 : wr.cell? ⟨Wb, 1, none⟩ = some (.slice ab W.net.buses.length cb) := (cells_at HWS.out.2.hW 1).trans rfl
          have q2 : wr.cell? ⟨Wb, 2, none⟩ = some (.slice al W.net.lines.length cl) := (cells_at HWS.out.2.hW 2).trans rfl
          have q3 : wr.cell? ⟨Wb, 3, none⟩ = some (.slice ag W.net.gens.length cg) := (cells_at HWS.out.2.hW 3).trans rfl
          have q4 : wr.cell? ⟨Wb, 4, none⟩ = some (.slice ad W.net.loads.length cd) := (cells_at HWS.out.2.hW 4).trans rfl
          have q5 : wr.cell? ⟨Wb, 5, none⟩ = some (.slice at' W.net.ties.length ct) := (cells_at HWS.out.2.hW 5).trans rfl
          have q6 : wr.cell? ⟨Wb, 6, none⟩ = some (.slice ao W.out.length co) := (cells_at HWS.out.2.hW 6).trans rfl
          have q7 : wr.cell? ⟨Wb, 7, none⟩ = some (.slice an W.on.length cn) := (cells_at HWS.out.2.hW 7).trans rfl
          have q8 : wr.cell? ⟨Wb, 8, none⟩ = some (.slice ap W.plan.length cp) := (cells_at HWS.out.2.hW 8).trans rfl
          have q9 : wr.cell? ⟨Wb, 9, none⟩ = some (.slice av W.given.length cv) := (cells_at HWS.out.2.hW 9).trans rfl
          have q10 : wr.cell? ⟨Wb, 10, none⟩ = some (.int .i64 W.now) := (cells_at HWS.out.2.hW 10).trans rfl
          have q11 : wr.cell? ⟨Wb, 11, none⟩ = some (.slice ae W.log.length ce) := (cells_at HWS.out.2.hW 11).trans rfl
          clear how HOW HSA HSW
          go_wp2_with fail
          refine HRV.out.mono ?_
          rintro e w9 ⟨F2, rfl, hF2, hs2, hb9⟩
          have HNW : Hid (Says j (hopsL live (List.replicate j false) (serviceL W.net W.out)) (fun k => D k = i + 1 ∧ i + 1 < j)) := next_says HENDS.out HD.out HI2.out HLV.out
          have HS9 : Hid (WaveAt w w9 F j (.slice (some ⟨F2, 0, none⟩) j j) (hopsL live (List.replicate j false) (serviceL W.net W.out)) ∧ ST w w9 Wb F j #[.string W.net.name, .slice ab W.net.buses.length cb, .slice al W.net.lines.length cl, .slice ag W.net.gens.length cg, .slice ad W.net.loads.length cd, .slice at' W.net.ties.length ct, .slice ao W.out.length co, .slice an W.on.length cn, .slice ap W.plan.length cp, .slice av W.given.length cv, .int .i64 W.now, .slice ae W.log.length ce] live) := by
            refine ⟨fun z _ hz => row_signs (hz F2 _ hF2 (fun e => ?_)) HNW.out.1, HWS.out.2.more hb9⟩
            have := lt_heap HWS.out.2.hF
            omega
          have HO9 := hide' (own_below HOW2.out hb9 (Nat.le_refl _))
          clear hF2 hs2 hb9 HRV HOW2 HWS q0 q1 q2 q3 q4 q5 q6 q7 q8 q9 q10 q11
          go_wp2_with fail
          go_roundw
          case rel => exact ⟨i + 1, _, live, _, _, rfl, HI2.out, ⟨HNW.out, HLV.out⟩, HS9.out, HO9.out⟩
          case measure =>
            have h1 := own_len HO9.out
            have h2 := HLO.out
            have h3 := HLN.out
            have h4 := HLT.out
            have h5 := HLB.out
            omega
end Go.Proofs.YtpbalclhdhjnoaaGreatDoor.Bar
namespace Go.Proofs.YtpbalclhdhjnoaaGreatDoor.Bar
open Go.RowKit Go.Shelf Doc

/-- Each generator generates nothing, or what it can while it is on. -/
def PlanOk (gs : List GenM) (on : List Bool) (plan : List Int) (k : Nat) : Prop := ∀ j (g : GenM), j < k → gs[j]? = some g → plan.getD j 0 ≠ 0 → on.getD j false = true ∧ g.least ≤ plan.getD j 0 ∧ plan.getD j 0 ≤ g.most
/-- Each load is given no more than it draws. -/
def GivenOk (ls : List LoadM) (given : List Int) (k : Nat) : Prop := ∀ j (l : LoadM), j < k → ls[j]? = some l → 0 ≤ given.getD j 0 ∧ given.getD j 0 ≤ l.power
def PlannedW (W : WorldM) : Prop := W.on.length = W.net.gens.length ∧ W.plan.length = W.net.gens.length ∧ PlanOk W.net.gens W.on W.plan W.net.gens.length
def GivenW (W : WorldM) : Prop := W.given.length = W.net.loads.length ∧ GivenOk W.net.loads W.given W.net.loads.length
/-- A world that may be. -/
def MayW (W : WorldM) : Prop := MayM W.net ∧ W.out.length = W.net.lines.length ∧ PlannedW W ∧ GivenW W ∧ (0 ≤ W.now ∧ W.now ≤ 1000000000) ∧ W.log.length ≤ 100
theorem PlanOk.next {gs : List GenM} {on : List Bool} {plan : List Int} {k : Nat} {g : GenM} (h : PlanOk gs on plan k) (hk : gs[k]? = some g) (hg : plan.getD k 0 ≠ 0 → on.getD k false = true ∧ g.least ≤ plan.getD k 0 ∧ plan.getD k 0 ≤ g.most) : PlanOk gs on plan (k + 1) := fun j x hj hx h0 => by
  by_cases e : j = k
  · subst e
    rw [hk] at hx
    cases hx
    exact hg h0
  · exact h j x (by omega) hx h0
theorem GivenOk.next {ls : List LoadM} {given : List Int} {k : Nat} {l : LoadM} (h : GivenOk ls given k) (hk : ls[k]? = some l) (hg : 0 ≤ given.getD k 0 ∧ given.getD k 0 ≤ l.power) : GivenOk ls given (k + 1) := fun j x hj hx => by
  by_cases e : j = k
  · subst e
    rw [hk] at hx
    cases hx
    exact hg
  · exact h j x (by omega) hx
theorem int_cellW {w : World} {v : Value} {l : List Int} {n : Nat} (h : RowAt w v n 1 (ints l)) (k : Nat) (hk : k < n) : ∃ b off c, v = .slice (some ⟨b, off, none⟩) n c ∧ w.cell? ⟨b, off + k, none⟩ = some (.int .i64 (l.getD k 0)) := by
  obtain ⟨h1, a, c, rfl, h2⟩ := h
  have hl : k < l.length := by rw [ints, List.length_map] at h1; omega
  obtain ⟨b, off, rfl, h3⟩ := h2 k (.int .i64 (l.getD k 0)) (by rw [ints, List.getElem?_map, List.getElem?_eq_getElem hl, List.getD_eq_getElem?_getD, List.getElem?_eq_getElem hl]; rfl)
  exact ⟨b, off, c, rfl, h3⟩
set_option maxRecDepth 100000 in
set_option maxHeartbeats 4000000 in
theorem givenWell_any (W : WorldM) (a : WAddr) (w : World) (hlo : W.net.loads.length ≤ 2000000) (hw : WorldAt w W a) :
    Calls Tryz.prog 16 #[.agg #[.string W.net.name, .slice a.ab W.net.buses.length a.cb, .slice a.al W.net.lines.length a.cl, .slice a.ag W.net.gens.length a.cg, .slice a.ad W.net.loads.length a.cd, .slice a.at' W.net.ties.length a.ct, .slice a.ao W.out.length a.co, .slice a.an W.on.length a.cn, .slice a.ap W.plan.length a.cp, .slice a.av W.given.length a.cv, .int .i64 W.now, .slice a.ae W.log.length a.ce]] w fun e w' => ∃ r : Bool, e = .returned (.bool r) ∧ (r = true ↔ GivenW W) ∧ Below w.heap.size w w' := by
  obtain ⟨ab, al, ag, ad, at', ao, an, ap, av, ae, cb, cl, cg, cd, ct, co, cn, cp, cv, ce⟩ := a
  dsimp only
  have HDR : Hid (RowAt w (.slice ad W.net.loads.length cd) W.net.loads.length 3 (W.net.loads.flatMap LoadM.cells)) := hw.d
  have HVR : Hid (RowAt w (.slice av W.given.length cv) W.given.length 1 (ints W.given)) := hw.v
  clear hw
  go_enter Tryz.func16, Tryz.ntmps16
  go_upto_region 1 with fail
  have hqWb := alloc_new w (.cells #[.string W.net.name, .slice ab W.net.buses.length cb, .slice al W.net.lines.length cl, .slice ag W.net.gens.length cg, .slice ad W.net.loads.length cd, .slice at' W.net.ties.length ct, .slice ao W.out.length co, .slice an W.on.length cn, .slice ap W.plan.length cp, .slice av W.given.length cv, .int .i64 W.now, .slice ae W.log.length ce] 33)
  have hb1 := below_al w (.cells #[.string W.net.name, .slice ab W.net.buses.length cb, .slice al W.net.lines.length cl, .slice ag W.net.gens.length cg, .slice ad W.net.loads.length cd, .slice at' W.net.ties.length ct, .slice ao W.out.length co, .slice an W.on.length cn, .slice ap W.plan.length cp, .slice av W.given.length cv, .int .i64 W.now, .slice ae W.log.length ce] 33)
  obtain ⟨w1, hw1⟩ : ∃ x, x = (w.alloc (.cells #[.string W.net.name, .slice ab W.net.buses.length cb, .slice al W.net.lines.length cl, .slice ag W.net.gens.length cg, .slice ad W.net.loads.length cd, .slice at' W.net.ties.length ct, .slice ao W.out.length co, .slice an W.on.length cn, .slice ap W.plan.length cp, .slice av W.given.length cv, .int .i64 W.now, .slice ae W.log.length ce] 33)) := ⟨_, rfl⟩
  rw [← hw1] at hqWb hb1 ⊢
  obtain ⟨Wb, hnWb⟩ : ∃ x, x = w.heap.size := ⟨_, rfl⟩
  have HNE : Hid (w.heap.size ≤ Wb) := by show _ ≤ _; omega
  rw [← hnWb] at hqWb
  rw [show (Value.pointer (some { block := w.heap.size, off := 0 })) = Value.pointer (some { block := Wb, off := 0 }) by rw [hnWb]]
  have HQWb := hide' hqWb
  have HB1 := hide' hb1
  clear hqWb hb1 hw1 hnWb
  have g4 : w1.cell? ⟨Wb, 4, none⟩ = some (.slice ad W.net.loads.length cd) := (cells_at HQWb.out 4).trans rfl
  have g9 : w1.cell? ⟨Wb, 9, none⟩ = some (.slice av W.given.length cv) := (cells_at HQWb.out 9).trans rfl
  by_cases hlen : W.given.length = W.net.loads.length
  · have HLE := hide' hlen
    rw [hlen] at g9 HVR HQWb ⊢
    clear hlen
    go_wp2_with fail
    clear g4 g9
    go_loopw [17] (fun iv wr => ∃ (k : Nat), iv = .int .i64 k ∧ k ≤ W.net.loads.length ∧ Hid (GivenOk W.net.loads W.given k) ∧ Hid (Below w1.heap.size w1 wr)) (fun iv _ => W.net.loads.length - (intOf iv).toNat)
    case atStart => exact ⟨0, rfl, Nat.zero_le _, fun j l hj => absurd hj (Nat.not_lt_zero _), Below.refl _ w1⟩
    case round =>
      obtain ⟨k, rfl, hk, HG, HB⟩ := hrel
      by_cases hkl : k < W.net.loads.length
      · obtain ⟨rb, ro, rc, exr, _, hrow⟩ := row_elem (f := LoadM.cells) (fun _ => rfl) HDR.out k hkl (by decide)
        obtain ⟨l, hlk⟩ : ∃ l, l = W.net.loads[k] := ⟨_, rfl⟩
        have HLK : Hid (W.net.loads[k]? = some l) := by show _ = _; rw [hlk]; exact List.getElem?_eq_getElem hkl
        rw [← hlk] at hrow
        obtain ⟨nm, bu, po⟩ := l
        simp only [Value.slice.injEq] at exr
        obtain ⟨rfl, _, rfl⟩ := exr
        have HBW := hide' (HB1.out.trans (HB.out.mono HB1.out.size))
        have c0 : wr.cell? ⟨rb, ro + k * 3, none⟩ = some (.string nm) := up_cell HBW.out (hrow 0 _ rfl)
        have c1 : wr.cell? ⟨rb, ro + k * 3 + 1, none⟩ = some (.int .i64 bu) := up_cell HBW.out (hrow 1 _ rfl)
        have c2 : wr.cell? ⟨rb, ro + k * 3 + 2, none⟩ = some (.int .i64 po) := up_cell HBW.out (hrow 2 _ rfl)
        clear hrow hlk
        go_upto_region 6 with fail
        obtain ⟨D, hD⟩ : ∃ x, x = wr.heap.size := ⟨_, rfl⟩
        have hb4 := below_al wr (.cells #[.string nm, .int .i64 bu, .int .i64 po] 51)
        have hn4 := alloc_new wr (.cells #[.string nm, .int .i64 bu, .int .i64 po] 51)
        obtain ⟨w4, hw4⟩ : ∃ x, x = wr.alloc (.cells #[.string nm, .int .i64 bu, .int .i64 po] 51) := ⟨_, rfl⟩
        rw [← hw4] at hb4 hn4 ⊢
        rw [← hD] at hn4 ⊢
        have HB4 : Hid (Below w1.heap.size w1 w4) := HB.out.trans (hb4.mono HB.out.size)
        have d2 : w4.cell? ⟨D, 2, none⟩ = some (.int .i64 po) := (cells_at hn4 2).trans rfl
        obtain ⟨vb, vo, vc, exv, hvc⟩ := int_cellW HVR.out k hkl
        simp only [Value.slice.injEq] at exv
        obtain ⟨rfl, _, rfl⟩ := exv
        have v1 := up_cell (HB1.out.trans (HB4.out.mono HB1.out.size)) hvc
        have g9 : w4.cell? ⟨Wb, 9, none⟩ = some (.slice (some ⟨vb, vo, none⟩) W.net.loads.length cv) := (cells_at ((HB4.out.block Wb (lt_heap HQWb.out)).trans HQWb.out) 9).trans rfl
        have HBD : Hid (∀ m, Below w1.heap.size w1 (w4.drewN m)) := fun m => below_drewN HB4.out m
        obtain ⟨x, hx⟩ : ∃ x, x = W.given.getD k 0 := ⟨_, rfl⟩
        have HYE : Hid (0 ≤ x ∧ x ≤ po → GivenOk W.net.loads W.given (k + 1)) := fun h => HG.out.next HLK.out (by rw [← hx]; exact h)
        have HNO : Hid (¬ (0 ≤ x ∧ x ≤ po) → ¬ GivenW W) := fun h hg => h (by have := hg.2 k _ hkl HLK.out; rw [← hx] at this; exact this)
        rw [← hx] at v1
        clear hn4 hw4 hD HB c0 c1 c2 hb4 hvc hx HG HBW
        by_cases hr : 0 ≤ x ∧ x ≤ po
        · have HWI : Hid (∀ m, Calls Tryz.prog 17 #[.int .i64 x, .int .i64 0, .int .i64 po] (w4.drewN m) fun e w' => e = .returned (.bool true) ∧ w' = w4.drewN m) := fun m => (within_any x 0 po (w4.drewN m)).mono (fun e w' h => ⟨h.1.trans (ret_bool (by simp [hr])), h.2⟩)
          have HG2 := hide' (HYE.out hr)
          clear HYE HNO hr
          go_quiet (first | (go_at_call 17; exact Calls.quiet_of_same (HWI.out _)))
          go_wp2_with fail
          go_roundw
          case rel => exact ⟨k + 1, by go_num, by omega, HG2.out, HBD.out _⟩
          case measure => simp only [intOf]; omega
        · have HWI : Hid (∀ m, Calls Tryz.prog 17 #[.int .i64 x, .int .i64 0, .int .i64 po] (w4.drewN m) fun e w' => e = .returned (.bool false) ∧ w' = w4.drewN m) := fun m => (within_any x 0 po (w4.drewN m)).mono (fun e w' h => ⟨h.1.trans (ret_bool (by rw [← Bool.not_eq_true]; simp; omega)), h.2⟩)
          have HG2 := hide' (HNO.out hr)
          clear HYE HNO hr
          go_quiet (first | (go_at_call 17; exact Calls.quiet_of_same (HWI.out _)))
          go_wp2_with fail
          go_ret
          exact ⟨_, rfl, ⟨fun h => (by cases h), fun h => absurd h HG2.out⟩, HB1.out.trans ((HBD.out _).mono HB1.out.size)⟩
      · have hke : k = W.net.loads.length := by omega
        subst hke
        go_wp2_with fail
        go_ret
        exact ⟨_, rfl, ⟨fun _ => ⟨HLE.out, HG.out⟩, fun _ => rfl⟩, HB1.out.trans (HB.out.mono HB1.out.size)⟩
  · go_wp2_with fail
    go_ret
    exact ⟨_, rfl, ⟨fun h => (by cases h), fun h => absurd h.1 hlen⟩, HB1.out⟩
end Go.Proofs.YtpbalclhdhjnoaaGreatDoor.Bar
namespace Go.Proofs.YtpbalclhdhjnoaaGreatDoor.Bar
open Go.RowKit Go.Shelf Doc

set_option maxRecDepth 100000 in
set_option maxHeartbeats 4000000 in
theorem planned_any (W : WorldM) (a : WAddr) (w : World) (hlo : W.net.gens.length ≤ 2000000) (hw : WorldAt w W a) :
    Calls Tryz.prog 15 #[.agg #[.string W.net.name, .slice a.ab W.net.buses.length a.cb, .slice a.al W.net.lines.length a.cl, .slice a.ag W.net.gens.length a.cg, .slice a.ad W.net.loads.length a.cd, .slice a.at' W.net.ties.length a.ct, .slice a.ao W.out.length a.co, .slice a.an W.on.length a.cn, .slice a.ap W.plan.length a.cp, .slice a.av W.given.length a.cv, .int .i64 W.now, .slice a.ae W.log.length a.ce]] w fun e w' => ∃ r : Bool, e = .returned (.bool r) ∧ (r = true ↔ PlannedW W) ∧ Below w.heap.size w w' := by
  obtain ⟨ab, al, ag, ad, at', ao, an, ap, av, ae, cb, cl, cg, cd, ct, co, cn, cp, cv, ce⟩ := a
  dsimp only
  have HGR : Hid (RowAt w (.slice ag W.net.gens.length cg) W.net.gens.length 5 (W.net.gens.flatMap GenM.cells)) := hw.g
  have HNR : Hid (RowAt w (.slice an W.on.length cn) W.on.length 1 (W.on.map Value.bool)) := hw.n
  have HPR : Hid (RowAt w (.slice ap W.plan.length cp) W.plan.length 1 (ints W.plan)) := hw.p
  clear hw
  go_enter Tryz.func15, Tryz.ntmps15
  go_upto_region 1 with fail
  have hqWb := alloc_new w (.cells #[.string W.net.name, .slice ab W.net.buses.length cb, .slice al W.net.lines.length cl, .slice ag W.net.gens.length cg, .slice ad W.net.loads.length cd, .slice at' W.net.ties.length ct, .slice ao W.out.length co, .slice an W.on.length cn, .slice ap W.plan.length cp, .slice av W.given.length cv, .int .i64 W.now, .slice ae W.log.length ce] 33)
  have hb1 := below_al w (.cells #[.string W.net.name, .slice ab W.net.buses.length cb, .slice al W.net.lines.length cl, .slice ag W.net.gens.length cg, .slice ad W.net.loads.length cd, .slice at' W.net.ties.length ct, .slice ao W.out.length co, .slice an W.on.length cn, .slice ap W.plan.length cp, .slice av W.given.length cv, .int .i64 W.now, .slice ae W.log.length ce] 33)
  obtain ⟨w1, hw1⟩ : ∃ x, x = (w.alloc (.cells #[.string W.net.name, .slice ab W.net.buses.length cb, .slice al W.net.lines.length cl, .slice ag W.net.gens.length cg, .slice ad W.net.loads.length cd, .slice at' W.net.ties.length ct, .slice ao W.out.length co, .slice an W.on.length cn, .slice ap W.plan.length cp, .slice av W.given.length cv, .int .i64 W.now, .slice ae W.log.length ce] 33)) := ⟨_, rfl⟩
  rw [← hw1] at hqWb hb1 ⊢
  obtain ⟨Wb, hnWb⟩ : ∃ x, x = w.heap.size := ⟨_, rfl⟩
  have HNE : Hid (w.heap.size ≤ Wb) := by show _ ≤ _; omega
  rw [← hnWb] at hqWb
  rw [show (Value.pointer (some { block := w.heap.size, off := 0 })) = Value.pointer (some { block := Wb, off := 0 }) by rw [hnWb]]
  have HQWb := hide' hqWb
  have HB1 := hide' hb1
  clear hqWb hb1 hw1 hnWb
  have g3 : w1.cell? ⟨Wb, 3, none⟩ = some (.slice ag W.net.gens.length cg) := (cells_at HQWb.out 3).trans rfl
  have g7 : w1.cell? ⟨Wb, 7, none⟩ = some (.slice an W.on.length cn) := (cells_at HQWb.out 7).trans rfl
  have g8 : w1.cell? ⟨Wb, 8, none⟩ = some (.slice ap W.plan.length cp) := (cells_at HQWb.out 8).trans rfl
  by_cases hlen : W.on.length = W.net.gens.length
  · have HLE := hide' hlen
    rw [hlen] at g7 HNR HQWb ⊢
    clear hlen
    by_cases hlen : W.plan.length = W.net.gens.length
    · have HLP := hide' hlen
      rw [hlen] at g8 HPR HQWb ⊢
      clear hlen
      go_wp2_with fail
      clear g3 g7 g8
      go_loopw [27] (fun iv wr => ∃ (k : Nat), iv = .int .i64 k ∧ k ≤ W.net.gens.length ∧ Hid (PlanOk W.net.gens W.on W.plan k) ∧ Hid (Below w1.heap.size w1 wr)) (fun iv _ => W.net.gens.length - (intOf iv).toNat)
      case atStart => exact ⟨0, rfl, Nat.zero_le _, fun j l hj => absurd hj (Nat.not_lt_zero _), Below.refl _ w1⟩
      case round =>
        obtain ⟨k, rfl, hk, HG, HB⟩ := hrel
        by_cases hkl : k < W.net.gens.length
        · obtain ⟨rb, ro, rc, exr, _, hrow⟩ := row_elem (f := GenM.cells) (fun _ => rfl) HGR.out k hkl (by decide)
          obtain ⟨l, hlk⟩ : ∃ l, l = W.net.gens[k] := ⟨_, rfl⟩
          have HLK : Hid (W.net.gens[k]? = some l) := by show _ = _; rw [hlk]; exact List.getElem?_eq_getElem hkl
          rw [← hlk] at hrow
          obtain ⟨nm, bu, le, mo, co'⟩ := l
          simp only [Value.slice.injEq] at exr
          obtain ⟨rfl, _, rfl⟩ := exr
          have HBW := hide' (HB1.out.trans (HB.out.mono HB1.out.size))
          have c0 : wr.cell? ⟨rb, ro + k * 5, none⟩ = some (.string nm) := up_cell HBW.out (hrow 0 _ rfl)
          have c1 : wr.cell? ⟨rb, ro + k * 5 + 1, none⟩ = some (.int .i64 bu) := up_cell HBW.out (hrow 1 _ rfl)
          have c2 : wr.cell? ⟨rb, ro + k * 5 + 2, none⟩ = some (.int .i64 le) := up_cell HBW.out (hrow 2 _ rfl)
          have c3 : wr.cell? ⟨rb, ro + k * 5 + 3, none⟩ = some (.int .i64 mo) := up_cell HBW.out (hrow 3 _ rfl)
          have c4 : wr.cell? ⟨rb, ro + k * 5 + 4, none⟩ = some (.int .i64 co') := up_cell HBW.out (hrow 4 _ rfl)
          clear hrow hlk
          go_upto_region 6 with fail
          obtain ⟨D, hD⟩ : ∃ x, x = wr.heap.size := ⟨_, rfl⟩
          have hb4 := below_al wr (.cells #[.string nm, .int .i64 bu, .int .i64 le, .int .i64 mo, .int .i64 co'] 46)
          have hn4 := alloc_new wr (.cells #[.string nm, .int .i64 bu, .int .i64 le, .int .i64 mo, .int .i64 co'] 46)
          obtain ⟨w4, hw4⟩ : ∃ x, x = wr.alloc (.cells #[.string nm, .int .i64 bu, .int .i64 le, .int .i64 mo, .int .i64 co'] 46) := ⟨_, rfl⟩
          rw [← hw4] at hb4 hn4 ⊢
          rw [← hD] at hn4 ⊢
          have HB4 : Hid (Below w1.heap.size w1 w4) := HB.out.trans (hb4.mono HB.out.size)
          have d2 : w4.cell? ⟨D, 2, none⟩ = some (.int .i64 le) := (cells_at hn4 2).trans rfl
          have d3 : w4.cell? ⟨D, 3, none⟩ = some (.int .i64 mo) := (cells_at hn4 3).trans rfl
          obtain ⟨vb, vo, vc, exv, hvc⟩ := int_cellW HPR.out k hkl
          simp only [Value.slice.injEq] at exv
          obtain ⟨rfl, _, rfl⟩ := exv
          have v1 := up_cell (HB1.out.trans (HB4.out.mono HB1.out.size)) hvc
          obtain ⟨ob, oo, oc, exo, hoc⟩ := bool_cellW HNR.out k hkl
          simp only [Value.slice.injEq] at exo
          obtain ⟨rfl, _, rfl⟩ := exo
          have v2 := up_cell (HB1.out.trans (HB4.out.mono HB1.out.size)) hoc
          have HWB := hide' ((HB4.out.block Wb (lt_heap HQWb.out)).trans HQWb.out)
          have g7 : w4.cell? ⟨Wb, 7, none⟩ = some (.slice (some ⟨ob, oo, none⟩) W.net.gens.length cn) := (cells_at HWB.out 7).trans rfl
          have g8 : w4.cell? ⟨Wb, 8, none⟩ = some (.slice (some ⟨vb, vo, none⟩) W.net.gens.length cp) := (cells_at HWB.out 8).trans rfl
          have HBD : Hid (∀ m, Below w1.heap.size w1 (w4.drewN m)) := fun m => below_drewN HB4.out m
          obtain ⟨x, hx⟩ : ∃ x, x = W.plan.getD k 0 := ⟨_, rfl⟩
          obtain ⟨y, hy⟩ : ∃ y, y = W.on.getD k false := ⟨_, rfl⟩
          have HYE : Hid ((x ≠ 0 → y = true ∧ le ≤ x ∧ x ≤ mo) → PlanOk W.net.gens W.on W.plan (k + 1)) := fun h => HG.out.next HLK.out (by rw [← hx, ← hy]; exact h)
          have HNO : Hid (x ≠ 0 → ¬ (y = true ∧ le ≤ x ∧ x ≤ mo) → ¬ PlannedW W) := fun h0 h hg => h (by have := hg.2.2 k _ hkl HLK.out (by rw [← hx]; exact h0); rw [← hx, ← hy] at this; exact this)
          rw [← hx] at v1
          rw [← hy] at v2
          clear hn4 hw4 hD HB c0 c1 c2 c3 c4 hb4 hvc hoc hx hy HG HBW HWB
          by_cases hx0 : x = 0
          · subst hx0
            have HG2 := hide' (HYE.out (fun h => absurd rfl h))
            clear HYE HNO
            go_quiet (fail)
            go_wp2_with fail
            go_roundw
            case rel => exact ⟨k + 1, by go_num, by omega, HG2.out, HBD.out _⟩
            case measure => simp only [intOf]; omega
          · have hxn : (x != 0) = true := by simpa using hx0
            cases y with
            | false =>
              have HG2 := hide' (HNO.out hx0 (fun h => absurd h.1 (by decide)))
              clear HYE HNO
              go_quiet (fail)
              go_wp2_with fail
              go_ret
              exact ⟨_, rfl, ⟨fun h => (by cases h), fun h => absurd h HG2.out⟩, HB1.out.trans ((HBD.out _).mono HB1.out.size)⟩
            | true =>
              by_cases hr : le ≤ x ∧ x ≤ mo
              · have HWI : Hid (∀ m, Calls Tryz.prog 17 #[.int .i64 x, .int .i64 le, .int .i64 mo] (w4.drewN m) fun e w' => e = .returned (.bool true) ∧ w' = w4.drewN m) := fun m => (within_any x le mo (w4.drewN m)).mono (fun e w' h => ⟨h.1.trans (ret_bool (by simp [hr])), h.2⟩)
                have HG2 := hide' (HYE.out (fun _ => ⟨rfl, hr⟩))
                clear HYE HNO hr
                go_quiet (first | (go_at_call 17; exact Calls.quiet_of_same (HWI.out _)))
                go_wp2_with fail
                go_roundw
                case rel => exact ⟨k + 1, by go_num, by omega, HG2.out, HBD.out _⟩
                case measure => simp only [intOf]; omega
              · have HWI : Hid (∀ m, Calls Tryz.prog 17 #[.int .i64 x, .int .i64 le, .int .i64 mo] (w4.drewN m) fun e w' => e = .returned (.bool false) ∧ w' = w4.drewN m) := fun m => (within_any x le mo (w4.drewN m)).mono (fun e w' h => ⟨h.1.trans (ret_bool (by rw [← Bool.not_eq_true]; simp; omega)), h.2⟩)
                have HG2 := hide' (HNO.out hx0 (fun h => hr h.2))
                clear HYE HNO hr
                go_quiet (first | (go_at_call 17; exact Calls.quiet_of_same (HWI.out _)))
                go_wp2_with fail
                go_ret
                exact ⟨_, rfl, ⟨fun h => (by cases h), fun h => absurd h HG2.out⟩, HB1.out.trans ((HBD.out _).mono HB1.out.size)⟩
        · have hke : k = W.net.gens.length := by omega
          subst hke
          go_wp2_with fail
          go_ret
          exact ⟨_, rfl, ⟨fun _ => ⟨HLE.out, HLP.out, HG.out⟩, fun _ => rfl⟩, HB1.out.trans (HB.out.mono HB1.out.size)⟩
    · have hne : ((W.plan.length : Int) != (W.net.gens.length : Int)) = true := by simp; omega
      go_wp2_with fail
      go_ret
      exact ⟨_, rfl, ⟨fun h => (by cases h), fun h => absurd h.2.1 hlen⟩, HB1.out⟩
  · have hne : ((W.on.length : Int) != (W.net.gens.length : Int)) = true := by simp; omega
    go_wp2_with fail
    go_ret
    exact ⟨_, rfl, ⟨fun h => (by cases h), fun h => absurd h.1 hlen⟩, HB1.out⟩
end Go.Proofs.YtpbalclhdhjnoaaGreatDoor.Bar
namespace Go.Proofs.YtpbalclhdhjnoaaGreatDoor.Bar
open Go.RowKit Go.Shelf Doc

theorem owns_down {w w' : World} {B : Nat} {b l g d t : Value} {N : NetM} (h : Owns w B b l g d t N) (hb : Below w.heap.size w w') : Owns w' B b l g d t N :=
  ⟨own_below h.hb hb (Nat.le_refl _), own_below h.hl hb (Nat.le_refl _), own_below h.hg hb (Nat.le_refl _), own_below h.hd hb (Nat.le_refl _), own_below h.ht hb (Nat.le_refl _)⟩
set_option maxRecDepth 100000 in
set_option maxHeartbeats 4000000 in
theorem mayBe_any (W : WorldM) (a : WAddr) (B1 : Nat) (mx : Int) (w : World) (hsm : SmallM W.net) (htb : TabAll w) (ho : Owns w B1 (.slice a.ab W.net.buses.length a.cb) (.slice a.al W.net.lines.length a.cl) (.slice a.ag W.net.gens.length a.cg) (.slice a.ad W.net.loads.length a.cd) (.slice a.at' W.net.ties.length a.ct) W.net) (hm : w.cell? ⟨1, 0, none⟩ = some (.int .i64 mx)) (hw : WorldAt w W a) :
    Calls Tryz.prog 9 #[.agg #[.string W.net.name, .slice a.ab W.net.buses.length a.cb, .slice a.al W.net.lines.length a.cl, .slice a.ag W.net.gens.length a.cg, .slice a.ad W.net.loads.length a.cd, .slice a.at' W.net.ties.length a.ct, .slice a.ao W.out.length a.co, .slice a.an W.on.length a.cn, .slice a.ap W.plan.length a.cp, .slice a.av W.given.length a.cv, .int .i64 W.now, .slice a.ae W.log.length a.ce]] w fun e w' => ∃ r : Bool, e = .returned (.bool r) ∧ (r = true ↔ MayW W) ∧ Below w.heap.size w w' := by
  have HPL := hide' (fun z (hb : Below w.heap.size w z) => planned_any W a z hsm.lens.2.2.1 (hw.down hb))
  have HGI := hide' (fun z (hb : Below w.heap.size w z) => givenWell_any W a z hsm.lens.2.2.2.1 (hw.down hb))
  have HMY := hide' (fun z (hb : Below w.heap.size w z) => May_any W.net B1 _ _ _ _ _ mx z hsm (htb.later hb) (owns_down ho hb) (up_cell hb hm))
  obtain ⟨ab, al, ag, ad, at', ao, an, ap, av, ae, cb, cl, cg, cd, ct, co, cn, cp, cv, ce⟩ := a
  dsimp only at HPL HGI HMY ⊢
  clear hsm htb ho hm hw
  go_enter Tryz.func9, Tryz.ntmps9
  go_upto_region 1 with fail
  have hqWb := alloc_new w (.cells #[.string W.net.name, .slice ab W.net.buses.length cb, .slice al W.net.lines.length cl, .slice ag W.net.gens.length cg, .slice ad W.net.loads.length cd, .slice at' W.net.ties.length ct, .slice ao W.out.length co, .slice an W.on.length cn, .slice ap W.plan.length cp, .slice av W.given.length cv, .int .i64 W.now, .slice ae W.log.length ce] 33)
  have hb1 := below_al w (.cells #[.string W.net.name, .slice ab W.net.buses.length cb, .slice al W.net.lines.length cl, .slice ag W.net.gens.length cg, .slice ad W.net.loads.length cd, .slice at' W.net.ties.length ct, .slice ao W.out.length co, .slice an W.on.length cn, .slice ap W.plan.length cp, .slice av W.given.length cv, .int .i64 W.now, .slice ae W.log.length ce] 33)
  obtain ⟨w1, hw1⟩ : ∃ x, x = (w.alloc (.cells #[.string W.net.name, .slice ab W.net.buses.length cb, .slice al W.net.lines.length cl, .slice ag W.net.gens.length cg, .slice ad W.net.loads.length cd, .slice at' W.net.ties.length ct, .slice ao W.out.length co, .slice an W.on.length cn, .slice ap W.plan.length cp, .slice av W.given.length cv, .int .i64 W.now, .slice ae W.log.length ce] 33)) := ⟨_, rfl⟩
  rw [← hw1] at hqWb hb1 ⊢
  obtain ⟨Wb, hnWb⟩ : ∃ x, x = w.heap.size := ⟨_, rfl⟩
  have HNE : Hid (w.heap.size ≤ Wb) := by show _ ≤ _; omega
  rw [← hnWb] at hqWb
  rw [show (Value.pointer (some { block := w.heap.size, off := 0 })) = Value.pointer (some { block := Wb, off := 0 }) by rw [hnWb]]
  have HQWb := hide' hqWb
  have HB1 := hide' hb1
  clear hqWb hb1 hw1 hnWb
  have g0 : w1.cell? ⟨Wb, 0, none⟩ = some (.string W.net.name) := (cells_at HQWb.out 0).trans rfl
  have g1 : w1.cell? ⟨Wb, 1, none⟩ = some (.slice ab W.net.buses.length cb) := (cells_at HQWb.out 1).trans rfl
  have g2 : w1.cell? ⟨Wb, 2, none⟩ = some (.slice al W.net.lines.length cl) := (cells_at HQWb.out 2).trans rfl
  have g3 : w1.cell? ⟨Wb, 3, none⟩ = some (.slice ag W.net.gens.length cg) := (cells_at HQWb.out 3).trans rfl
  have g4 : w1.cell? ⟨Wb, 4, none⟩ = some (.slice ad W.net.loads.length cd) := (cells_at HQWb.out 4).trans rfl
  have g5 : w1.cell? ⟨Wb, 5, none⟩ = some (.slice at' W.net.ties.length ct) := (cells_at HQWb.out 5).trans rfl
  have g6 : w1.cell? ⟨Wb, 6, none⟩ = some (.slice ao W.out.length co) := (cells_at HQWb.out 6).trans rfl
  have g7 : w1.cell? ⟨Wb, 7, none⟩ = some (.slice an W.on.length cn) := (cells_at HQWb.out 7).trans rfl
  have g8 : w1.cell? ⟨Wb, 8, none⟩ = some (.slice ap W.plan.length cp) := (cells_at HQWb.out 8).trans rfl
  have g9 : w1.cell? ⟨Wb, 9, none⟩ = some (.slice av W.given.length cv) := (cells_at HQWb.out 9).trans rfl
  have g10 : w1.cell? ⟨Wb, 10, none⟩ = some (.int .i64 W.now) := (cells_at HQWb.out 10).trans rfl
  have g11 : w1.cell? ⟨Wb, 11, none⟩ = some (.slice ae W.log.length ce) := (cells_at HQWb.out 11).trans rfl
  go_wp2_with fail
  refine (HMY.out w1 HB1.out).mono ?_
  rintro e w2 ⟨⟨r, rfl, hr⟩, hb2⟩
  have HB2 := hide' (HB1.out.trans (hb2.mono HB1.out.size))
  have HW2 := hide' ((hb2.block Wb (lt_heap HQWb.out)).trans HQWb.out)
  have HR := hide' hr
  clear hb2 hr HMY HQWb HB1 g0 g1 g2 g3 g4 g5 g6 g7 g8 g9 g10 g11
  cases r with
  | false =>
    go_wp2_with fail
    go_ret
    exact ⟨_, rfl, ⟨fun h => (by cases h), fun h => absurd (HR.out.2 h.1) (by decide)⟩, HB2.out⟩
  | true =>
    have g0 : w2.cell? ⟨Wb, 0, none⟩ = some (.string W.net.name) := (cells_at HW2.out 0).trans rfl
    have g1 : w2.cell? ⟨Wb, 1, none⟩ = some (.slice ab W.net.buses.length cb) := (cells_at HW2.out 1).trans rfl
    have g2 : w2.cell? ⟨Wb, 2, none⟩ = some (.slice al W.net.lines.length cl) := (cells_at HW2.out 2).trans rfl
    have g3 : w2.cell? ⟨Wb, 3, none⟩ = some (.slice ag W.net.gens.length cg) := (cells_at HW2.out 3).trans rfl
    have g4 : w2.cell? ⟨Wb, 4, none⟩ = some (.slice ad W.net.loads.length cd) := (cells_at HW2.out 4).trans rfl
    have g5 : w2.cell? ⟨Wb, 5, none⟩ = some (.slice at' W.net.ties.length ct) := (cells_at HW2.out 5).trans rfl
    have g6 : w2.cell? ⟨Wb, 6, none⟩ = some (.slice ao W.out.length co) := (cells_at HW2.out 6).trans rfl
    have g7 : w2.cell? ⟨Wb, 7, none⟩ = some (.slice an W.on.length cn) := (cells_at HW2.out 7).trans rfl
    have g8 : w2.cell? ⟨Wb, 8, none⟩ = some (.slice ap W.plan.length cp) := (cells_at HW2.out 8).trans rfl
    have g9 : w2.cell? ⟨Wb, 9, none⟩ = some (.slice av W.given.length cv) := (cells_at HW2.out 9).trans rfl
    have g10 : w2.cell? ⟨Wb, 10, none⟩ = some (.int .i64 W.now) := (cells_at HW2.out 10).trans rfl
    have g11 : w2.cell? ⟨Wb, 11, none⟩ = some (.slice ae W.log.length ce) := (cells_at HW2.out 11).trans rfl
    by_cases hlen : W.out.length = W.net.lines.length
    · have HLO := hide' hlen
      rw [hlen] at g6 HW2 HPL HGI ⊢
      clear hlen
      go_wp2_with fail
      refine (HPL.out w2 HB2.out).mono ?_
      rintro e w3 ⟨r, rfl, hr3, hb3⟩
      have HB3 := hide' (HB2.out.trans (hb3.mono HB2.out.size))
      have HW3 := hide' ((hb3.block Wb (lt_heap HW2.out)).trans HW2.out)
      have HR3 := hide' hr3
      clear hb3 hr3 HPL HW2 HB2 g0 g1 g2 g3 g4 g5 g6 g7 g8 g9 g10 g11
      cases r with
      | false =>
        go_wp2_with fail
        go_ret
        exact ⟨_, rfl, ⟨fun h => (by cases h), fun h => absurd (HR3.out.2 h.2.2.1) (by decide)⟩, HB3.out⟩
      | true =>
        have g0 : w3.cell? ⟨Wb, 0, none⟩ = some (.string W.net.name) := (cells_at HW3.out 0).trans rfl
        have g1 : w3.cell? ⟨Wb, 1, none⟩ = some (.slice ab W.net.buses.length cb) := (cells_at HW3.out 1).trans rfl
        have g2 : w3.cell? ⟨Wb, 2, none⟩ = some (.slice al W.net.lines.length cl) := (cells_at HW3.out 2).trans rfl
        have g3 : w3.cell? ⟨Wb, 3, none⟩ = some (.slice ag W.net.gens.length cg) := (cells_at HW3.out 3).trans rfl
        have g4 : w3.cell? ⟨Wb, 4, none⟩ = some (.slice ad W.net.loads.length cd) := (cells_at HW3.out 4).trans rfl
        have g5 : w3.cell? ⟨Wb, 5, none⟩ = some (.slice at' W.net.ties.length ct) := (cells_at HW3.out 5).trans rfl
        have g6 : w3.cell? ⟨Wb, 6, none⟩ = some (.slice ao W.net.lines.length co) := (cells_at HW3.out 6).trans rfl
        have g7 : w3.cell? ⟨Wb, 7, none⟩ = some (.slice an W.on.length cn) := (cells_at HW3.out 7).trans rfl
        have g8 : w3.cell? ⟨Wb, 8, none⟩ = some (.slice ap W.plan.length cp) := (cells_at HW3.out 8).trans rfl
        have g9 : w3.cell? ⟨Wb, 9, none⟩ = some (.slice av W.given.length cv) := (cells_at HW3.out 9).trans rfl
        have g10 : w3.cell? ⟨Wb, 10, none⟩ = some (.int .i64 W.now) := (cells_at HW3.out 10).trans rfl
        have g11 : w3.cell? ⟨Wb, 11, none⟩ = some (.slice ae W.log.length ce) := (cells_at HW3.out 11).trans rfl
        go_wp2_with fail
        refine (HGI.out w3 HB3.out).mono ?_
        rintro e w4 ⟨r, rfl, hr4, hb4⟩
        have HB4 := hide' (HB3.out.trans (hb4.mono HB3.out.size))
        have HW4 := hide' ((hb4.block Wb (lt_heap HW3.out)).trans HW3.out)
        have HR4 := hide' hr4
        clear hb4 hr4 HGI HW3 HB3 g0 g1 g2 g3 g4 g5 g6 g7 g8 g9 g10 g11
        cases r with
        | false =>
          go_wp2_with fail
          go_ret
          exact ⟨_, rfl, ⟨fun h => (by cases h), fun h => absurd (HR4.out.2 h.2.2.2.1) (by decide)⟩, HB4.out⟩
        | true =>
          have g10 : w4.cell? ⟨Wb, 10, none⟩ = some (.int .i64 W.now) := (cells_at HW4.out 10).trans rfl
          have g11 : w4.cell? ⟨Wb, 11, none⟩ = some (.slice ae W.log.length ce) := (cells_at HW4.out 11).trans rfl
          by_cases hno : 0 ≤ W.now ∧ W.now ≤ 1000000000
          · have HWI : Hid (Calls Tryz.prog 17 #[.int .i64 W.now, .int .i64 0, .int .i64 1000000000] w4 fun e w' => e = .returned (.bool true) ∧ w' = w4) := (within_any W.now 0 1000000000 w4).mono (fun e w' h => ⟨h.1.trans (ret_bool (by simp [hno])), h.2⟩)
            have HNO := hide' hno
            clear hno
            go_wp2_with fail
            refine HWI.out.mono ?_
            rintro e zz ⟨rfl, hzz⟩
            rw [hzz]
            clear hzz zz HWI
            by_cases hlg : W.log.length ≤ 100
            · have hlg2 : ((W.log.length : Nat) : Int) ≤ 100 := by omega
              go_wp2_with fail
              go_ret
              exact ⟨_, rfl, ⟨fun _ => ⟨HR.out.1 (by trivial), HLO.out, HR3.out.1 (by trivial), HR4.out.1 (by trivial), HNO.out, hlg⟩, fun _ => by first | rfl | (simp; done) | (simp; omega)⟩, HB4.out⟩
            · have hlg2 : (100 : Int) < ((W.log.length : Nat) : Int) := by omega
              go_wp2_with fail
              go_ret
              exact ⟨_, rfl, ⟨fun h => absurd h (by simp; omega), fun h => absurd h.2.2.2.2.2 hlg⟩, HB4.out⟩
          · have HWI : Hid (Calls Tryz.prog 17 #[.int .i64 W.now, .int .i64 0, .int .i64 1000000000] w4 fun e w' => e = .returned (.bool false) ∧ w' = w4) := (within_any W.now 0 1000000000 w4).mono (fun e w' h => ⟨h.1.trans (ret_bool (by rw [← Bool.not_eq_true]; simp; omega)), h.2⟩)
            have HNO := hide' hno
            clear hno
            go_wp2_with fail
            refine HWI.out.mono ?_
            rintro e zz ⟨rfl, hzz⟩
            rw [hzz]
            clear hzz zz HWI
            go_wp2_with fail
            go_ret
            exact ⟨_, rfl, ⟨fun h => (by cases h), fun h => absurd h.2.2.2.2.1 HNO.out⟩, HB4.out⟩
    · have hne : ((W.out.length : Int) == (W.net.lines.length : Int)) = false := beq_eq_false_iff_ne.2 (fun e => hlen (by omega))
      go_wp2_with fail
      go_ret
      exact ⟨_, rfl, ⟨fun h => (by cases h), fun h => absurd h.2.1 hlen⟩, HB2.out⟩
end Go.Proofs.YtpbalclhdhjnoaaGreatDoor.Bar
