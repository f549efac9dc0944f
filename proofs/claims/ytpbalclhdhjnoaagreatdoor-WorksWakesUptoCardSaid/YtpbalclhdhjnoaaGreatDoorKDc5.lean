/- The document's own word on which networks may be. -/
import Derived.Test.YtpbalclhdhjnoaaGreatDoorKDc4
import Derived.Test.YtpbalclhdhjnoaaGreatDoorKGw2
namespace Go.Proofs.YtpbalclhdhjnoaaGreatDoor.Doc
open Go.RowKit

theorem places_nodup {xs : List ByteArray} (h : ∀ j (hj : j < xs.length), placeL xs xs[j] = j) : xs.Nodup := by
  refine List.pairwise_iff_getElem.2 fun i j hi hj hij he => ?_
  have h1 := h i hi
  rw [he, h j hj] at h1
  omega
theorem row_elem {α : Type} {w : World} {f : α → List Value} {sz n : Nat} {v : Value} {xs : List α} (hf : ∀ x, (f x).length = sz) (h : RowAt w v n sz (xs.flatMap f)) (k : Nat) (hk : k < xs.length) (hsz : 0 < sz) :
    ∃ b off c, v = .slice (some ⟨b, off, none⟩) n c ∧ b < w.heap.size ∧ ∀ j u, (f xs[k])[j]? = some u → w.cell? ⟨b, off + k * sz + j, none⟩ = some u := by
  obtain ⟨-, a, c, rfl, hc⟩ := h
  obtain ⟨u0, hu0⟩ : ∃ u, (f xs[k])[0]? = some u := ⟨(f xs[k])[0]'(by rw [hf]; exact hsz), List.getElem?_eq_getElem _⟩
  have e0 := flat_get f sz hf xs k 0 hk hsz
  rw [hu0] at e0
  obtain ⟨b, off, rfl, hc0⟩ := hc _ _ e0
  refine ⟨b, off, c, rfl, World.block_lt_of_cell? w _ hc0, fun j u hj => ?_⟩
  have hjs : j < sz := by rw [← hf xs[k]]; exact (List.getElem?_eq_some_iff.1 hj).1
  have e := flat_get f sz hf xs k j hk hjs
  rw [hj] at e
  obtain ⟨b', off', e1, hc1⟩ := hc _ _ e
  cases e1
  rwa [Nat.add_assoc]
theorem text_elem {w : World} {v : Value} {xs : List ByteArray} (h : TextsAt w v xs) (k : Nat) (hk : k < xs.length) : ∃ b off c, v = .slice (some ⟨b, off, none⟩) xs.length c ∧ b < w.heap.size ∧ w.cell? ⟨b, off + k, none⟩ = some (.string xs[k]) := by
  obtain ⟨-, a, c, rfl, hc⟩ := h
  obtain ⟨b, off, rfl, hcell⟩ := hc k (.string xs[k]) (by simp [hk])
  exact ⟨b, off, c, rfl, World.block_lt_of_cell? w _ hcell, hcell⟩

theorem inBounds_any (n lo hi : Int) (w : World) : Calls Tryz.prog 21 #[.int .i64 n, .int .i64 lo, .int .i64 hi] w fun e w' => e = .returned (.bool (decide (lo ≤ n) && decide (n ≤ hi))) ∧ w' = w := by
  go_enter Tryz.func21, Tryz.ntmps21
  go_wp2
  all_goals
    go_ret
    exact ⟨ret_bool (by rw [Bool.eq_iff_iff]; simp_all <;> omega), rfl⟩

def LineOk (N : NetM) (l : LineM) : Prop := 0 ≤ l.frm ∧ l.frm < N.buses.length ∧ 0 ≤ l.to ∧ l.to < N.buses.length ∧ l.frm ≠ l.to ∧ 1 ≤ l.worth ∧ l.worth ≤ 10000 ∧ 0 ≤ l.limit ∧ l.limit ≤ 100000
def GenOk (N : NetM) (x : GenM) : Prop := 0 ≤ x.bus ∧ x.bus < N.buses.length ∧ 0 ≤ x.least ∧ x.least ≤ 100000 ∧ x.least ≤ x.most ∧ x.most ≤ 100000 ∧ 0 ≤ x.cost ∧ x.cost ≤ 100000
def LoadOk (N : NetM) (x : LoadM) : Prop := 0 ≤ x.bus ∧ x.bus < N.buses.length ∧ 0 ≤ x.power ∧ x.power ≤ 100000
def TieOk (N : NetM) (l : TieM) : Prop := 0 ≤ l.frm ∧ l.frm < N.buses.length ∧ 0 ≤ l.to ∧ l.to < N.buses.length ∧ l.frm ≠ l.to
/-- All of a list up to k are well. -/
def UpTo {α : Type} (ok : α → Prop) (xs : List α) (k : Nat) : Prop := ∀ j (h : j < xs.length), j < k → ok xs[j]
theorem UpTo.snoc {α : Type} {ok : α → Prop} {xs : List α} {k : Nat} (h : UpTo ok xs k) (hk : k < xs.length) (ho : ok xs[k]) : UpTo ok xs (k + 1) := fun j hj a => by
  by_cases e : j = k
  · subst e; exact ho
  · exact h j hj (by omega)
theorem UpTo.all {α : Type} {ok : α → Prop} {xs : List α} {k : Nat} (h : UpTo ok xs k) (hk : ¬ k < xs.length) : ∀ x ∈ xs, ok x := fun x hx => by
  obtain ⟨j, hj, rfl⟩ := List.getElem_of_mem hx
  exact h j hj (by omega)
theorem UpTo.zero {α : Type} (ok : α → Prop) (xs : List α) : UpTo ok xs 0 := fun j _ a => by omega
/-- What NetMay answers. -/
def MayOut (N : NetM) (w : World) (e : Ending) (w' : World) : Prop := (∃ r : Bool, e = .returned (.bool r) ∧ (r = true ↔ MayM N)) ∧ Below w.heap.size w w'
theorem MayOut.no {N : NetM} {w w' : World} (h : ¬ MayM N) (hb : Below w.heap.size w w') : MayOut N w (.returned (.bool false)) w' := ⟨⟨false, rfl, ⟨fun h' => (by cases h'), fun h' => absurd h' h⟩⟩, hb⟩
theorem MayOut.yes {N : NetM} {w w' : World} (h : MayM N) (hb : Below w.heap.size w w') : MayOut N w (.returned (.bool true)) w' := ⟨⟨true, rfl, ⟨fun _ => h, fun _ => rfl⟩⟩, hb⟩
/-- The network in its box p. -/
structure Bx1 (w W : World) (p : Nat) (N : NetM) (b l g d t : Value) : Prop where
  box : W.heap[p]? = some (.cells #[.string N.name, b, l, g, d, t] 28 (0, 0))
  bel : Below w.heap.size w W
  hp : p = w.heap.size
  hb : TextsAt W b N.buses
  hl : RowAt W l N.lines.length 5 (N.lines.flatMap LineM.cells)
  hg : RowAt W g N.gens.length 5 (N.gens.flatMap GenM.cells)
  hd : RowAt W d N.loads.length 3 (N.loads.flatMap LoadM.cells)
  ht : RowAt W t N.ties.length 4 (N.ties.flatMap TieM.cells)
theorem Bx1.later {w W W' : World} {p : Nat} {N : NetM} {b l g d t : Value} (h : Bx1 w W p N b l g d t) (hb : Below W.heap.size W W') : Bx1 w W' p N b l g d t := by
  have hs : p < W.heap.size := (Array.getElem?_eq_some_iff.1 h.box).1
  have := h.hp
  exact ⟨(hb.block p hs).trans h.box, h.bel.trans (hb.mono (by omega)), h.hp, RowAt.below h.hb hb (Nat.le_refl _), RowAt.below h.hl hb (Nat.le_refl _), RowAt.below h.hg hb (Nat.le_refl _), RowAt.below h.hd hb (Nat.le_refl _), RowAt.below h.ht hb (Nat.le_refl _)⟩
theorem Bx1.drewN {w W : World} {p : Nat} {N : NetM} {b l g d t : Value} (h : Bx1 w W p N b l g d t) (q : Nat) : Bx1 w (W.drewN q) p N b l g d t := h.later (below_drewN (Below.refl _ W) q)
theorem Bx1.alloc {w W : World} {p : Nat} {N : NetM} {b l g d t : Value} (h : Bx1 w W p N b l g d t) (o : Obj) : Bx1 w (W.alloc o) p N b l g d t := h.later ((Below.refl _ W).alloc (Nat.le_refl _) o)
theorem Bx1.make {w : World} {N : NetM} {b l g d t : Value} (hb : TextsAt w b N.buses) (hl : RowAt w l N.lines.length 5 (N.lines.flatMap LineM.cells)) (hg : RowAt w g N.gens.length 5 (N.gens.flatMap GenM.cells))
    (hd : RowAt w d N.loads.length 3 (N.loads.flatMap LoadM.cells)) (ht : RowAt w t N.ties.length 4 (N.ties.flatMap TieM.cells)) {W : World} (hW : W = w.alloc (.cells #[.string N.name, b, l, g, d, t] 28)) : Bx1 w W w.heap.size N b l g d t := by
  have hB : Below w.heap.size w W := by rw [hW]; exact (Below.refl _ w).alloc (Nat.le_refl _) _
  exact ⟨by rw [hW]; exact World.alloc_heap_new w _, hB, rfl, RowAt.below hb hB (Nat.le_refl _), RowAt.below hl hB (Nat.le_refl _), RowAt.below hg hB (Nat.le_refl _), RowAt.below hd hB (Nat.le_refl _), RowAt.below ht hB (Nat.le_refl _)⟩

end Go.Proofs.YtpbalclhdhjnoaaGreatDoor.Doc

namespace Go.Proofs.YtpbalclhdhjnoaaGreatDoor.Doc
open Go.RowKit


set_option maxRecDepth 100000 in
set_option maxHeartbeats 8000000 in
theorem NetMay_any (N : NetM) (v : Value) (w : World) (hx : NetAt w v N) (hsm : SmallM N) : Calls Tryz.prog 20 #[v] w (MayOut N w) := by
  obtain ⟨b, l, g, d, t, rfl, hb, hl, hg, hd, ht⟩ := hx
  obtain ⟨ab, cb, rfl⟩ := rowAt_slice hb
  obtain ⟨al, cl, rfl⟩ := rowAt_slice hl
  obtain ⟨ag, cg, rfl⟩ := rowAt_slice hg
  obtain ⟨ad, cd, rfl⟩ := rowAt_slice hd
  obtain ⟨at', ct, rfl⟩ := rowAt_slice ht
  obtain ⟨n1, n2, n3, n4, n5⟩ := hsm.lens
  obtain ⟨W, hW⟩ : ∃ W, W = w.alloc (.cells #[.string N.name, .slice ab N.buses.length cb, .slice al N.lines.length cl, .slice ag N.gens.length cg, .slice ad N.loads.length cd, .slice at' N.ties.length ct] 28) := ⟨_, rfl⟩
  have HX := hide' (Bx1.make hb hl hg hd ht hW)
  have HNO := hide' (NameOk_any N.name W (by have := hsm.name; omega))
  have hNM : Hid (∀ x ∈ namesM N, x.size ≤ 2000000) := fun x hx => by
    simp only [namesM, List.mem_append, List.mem_map] at hx
    rcases hx with (((hx | ⟨y, hy, rfl⟩) | ⟨y, hy, rfl⟩) | ⟨y, hy, rfl⟩) | ⟨y, hy, rfl⟩
    · exact hsm.buses _ hx
    · exact (hsm.lines _ hy).1
    · exact (hsm.gens _ hy).1
    · exact (hsm.loads _ hy).1
    · exact (hsm.ties _ hy).1
  obtain ⟨k0, k1, k2, k3, k4, k5, kf⟩ := cells28 HX.out.box
  have HW := hide' hW
  clear hW hb hl hg hd ht hsm
  go_enter Tryz.func20, Tryz.ntmps20
  go_wp2_with fail
  rw [← HW.out]
  refine HNO.out.mono ?_
  rintro e w1 ⟨rfl, q, rfl⟩
  cases hname : nameL (bytesOf N.name) with
  | false =>
    have HR := hide' (MayOut.no (N := N) (w := w) (w' := W.drewN q) (fun h => by rw [h.nm] at hname; cases hname) (below_drewN HX.out.bel q))
    clear hname
    go_wp2
    go_ret
    exact HR.out
  | true =>
    have HNM : Hid (nameL (bytesOf N.name) = true) := hname
    clear hname
    by_cases f1 : 16 < N.buses.length
    · have HR := hide' (MayOut.no (N := N) (w := w) (w' := W.drewN q) (fun h => by have := h.fits.1; omega) (below_drewN HX.out.bel q))
      go_wp2
      go_ret
      exact HR.out
    by_cases f2 : 30 < N.lines.length
    · have HR := hide' (MayOut.no (N := N) (w := w) (w' := W.drewN q) (fun h => by have := h.fits.2.1; omega) (below_drewN HX.out.bel q))
      go_wp2
      go_ret
      exact HR.out
    by_cases f3 : 12 < N.gens.length
    · have HR := hide' (MayOut.no (N := N) (w := w) (w' := W.drewN q) (fun h => by have := h.fits.2.2.1; omega) (below_drewN HX.out.bel q))
      go_wp2
      go_ret
      exact HR.out
    by_cases f4 : 16 < N.loads.length
    · have HR := hide' (MayOut.no (N := N) (w := w) (w' := W.drewN q) (fun h => by have := h.fits.2.2.2.1; omega) (below_drewN HX.out.bel q))
      go_wp2
      go_ret
      exact HR.out
    by_cases f5 : 24 < N.ties.length
    · have HR := hide' (MayOut.no (N := N) (w := w) (w' := W.drewN q) (fun h => by have := h.fits.2.2.2.2; omega) (below_drewN HX.out.bel q))
      go_wp2
      go_ret
      exact HR.out
    have HF : Hid (Fits N) := ⟨by omega, by omega, by omega, by omega, by omega⟩
    have hX1 := HX.out.drewN q
    have HNames := hide' (namesOf_any _ N (W.drewN q) ⟨_, _, _, _, _, rfl, hX1.hb, hX1.hl, hX1.hg, hX1.hd, hX1.ht⟩ HF.out)
    have HX1 := hide' hX1
    clear hX1
    go_wp2_with fail
    refine HNames.out.mono ?_
    rintro e w1 ⟨v1, rfl, ho1, hb1⟩
    have HX2 := hide' (HX1.out.later hb1)
    have hnl : (namesM N).length ≤ 1000 := by simp [namesM]; omega
    obtain ⟨a1, cap1, rfl⟩ := own_slice ho1
    have HO1 := hide' (rowAt_of_own ho1)
    obtain ⟨nl, hnle⟩ : ∃ nl, nl = (namesM N).length := ⟨_, rfl⟩
    have HNL := hide' hnle
    rw [← hnle] at hnl ⊢
    clear hb1 ho1 HNames HX1 HX k0 k1 k2 k3 k4 k5 kf hnle
    go_wp2_with fail
    go_loopw [4] (fun i wr => ∃ (k : Nat), k ≤ nl ∧ i = .int .i64 k ∧ Hid (∀ j (h : j < (namesM N).length), j < k → nameL (bytesOf (namesM N)[j]) = true ∧ placeL (namesM N) (namesM N)[j] = j) ∧ Hid (Bx1 w wr w.heap.size N (.slice ab N.buses.length cb) (.slice al N.lines.length cl) (.slice ag N.gens.length cg) (.slice ad N.loads.length cd) (.slice at' N.ties.length ct)) ∧ Hid (TextsAt wr (.slice a1 (namesM N).length cap1) (namesM N))) (fun i _ => nl - (intOf i).toNat)
    case atStart => exact ⟨0, by omega, rfl, fun j h a => by omega, HX2, HO1⟩
    case round =>
      clear HX2 HO1
      obtain ⟨k, hk, rfl, HA, HX2, HO1⟩ := hrel
      by_cases hlt : k < nl
      · have hlt' : k < (namesM N).length := by rw [← HNL.out]; exact hlt
        obtain ⟨bx, ox, cx, ex, hbx, hcx⟩ := text_elem HO1.out k hlt'
        cases ex
        obtain ⟨x, hxe⟩ : ∃ x, x = (namesM N)[k] := ⟨_, rfl⟩
        rw [← hxe] at hcx
        have HXE := hide' hxe
        have HNO := hide' (NameOk_any x wr (by rw [hxe]; have := hNM.out _ (List.getElem_mem hlt'); omega))
        have HLT := hide' hlt'
        clear hxe hbx
        go_wp2_with fail
        refine HNO.out.mono ?_
        rintro e w2 ⟨rfl, q2, rfl⟩
        cases hname : nameL (bytesOf x) with
        | false =>
          have HR := hide' (MayOut.no (N := N) (w := w) (w' := wr.drewN q2) (fun h => by have := h.names x (by rw [HXE.out]; exact List.getElem_mem HLT.out); rw [this] at hname; cases hname) (below_drewN HX2.out.bel q2))
          clear hname
          go_wp2
          go_ret
          exact HR.out
        | true =>
          have hO2 : TextsAt (wr.drewN q2) (.slice (some ⟨bx, ox, none⟩) (namesM N).length cap1) (namesM N) := RowAt.below HO1.out (below_drewN (Below.refl _ wr) q2) (Nat.le_refl _)
          have hpl := placeOf_any _ (namesM N) x (wr.drewN q2) hO2 (by rw [← HNL.out]; exact hnl)
          rw [← HNL.out] at hpl
          have HPL := hide' hpl
          have HX3 := hide' (HX2.out.drewN q2)
          have HO2 := hide' hO2
          have HNO2 := hide' hname
          clear hpl hO2 hname
          go_wp2_with fail
          refine HPL.out.mono ?_
          rintro e w2 ⟨rfl, rfl⟩
          by_cases he : placeL (namesM N) x = k
          · have HP : Hid (∀ j (h : j < (namesM N).length), j < k + 1 → nameL (bytesOf (namesM N)[j]) = true ∧ placeL (namesM N) (namesM N)[j] = j) := fun j h a => by
              by_cases e : j = k
              · subst e
                rw [← HXE.out]
                exact ⟨HNO2.out, he⟩
              · exact HA.out j h (by omega)
            rw [he]
            clear he
            go_wp2
            go_roundw
            case rel => exact ⟨k + 1, by omega, by go_num, HP, HX3, HO2⟩
            case measure => simp [intOf]; omega
          · have HR := hide' (MayOut.no (N := N) (w := w) (w' := wr.drewN q2) (fun h => he (by rw [HXE.out]; exact place_at h.nodup HLT.out)) HX3.out.bel)
            have hne : ((placeL (namesM N) x) == (k : Int)) = false := beq_eq_false_iff_ne.2 he
            clear he
            go_wp2
            go_ret
            exact HR.out
      · have HAll : Hid ((∀ x ∈ namesM N, nameL (bytesOf x) = true) ∧ (namesM N).Nodup) := by
          have hge : (namesM N).length ≤ k := by rw [← HNL.out]; omega
          refine ⟨fun x hx => ?_, places_nodup fun j hj => (HA.out j hj (by omega)).2⟩
          obtain ⟨j, hj, rfl⟩ := List.getElem_of_mem hx
          exact (HA.out j hj (by omega)).1
        clear HA HO1 hNM
        obtain ⟨k0, k1, k2, k3, k4, k5, kf⟩ := cells28 HX2.out.box
        go_wp2_with fail

        go_loopw [6] (fun i wr => ∃ (k : Nat), k ≤ N.lines.length ∧ i = .int .i64 k ∧ Hid (UpTo (LineOk N) N.lines k) ∧ Hid (Bx1 w wr w.heap.size N (.slice ab N.buses.length cb) (.slice al N.lines.length cl) (.slice ag N.gens.length cg) (.slice ad N.loads.length cd) (.slice at' N.ties.length ct))) (fun i _ => N.lines.length - (intOf i).toNat)
        case atStart => exact ⟨0, by omega, rfl, UpTo.zero _ _, HX2⟩
        case round =>
          clear HX2 k0 k1 k2 k3 k4 k5 kf hlt
          obtain ⟨k, hk, rfl, HA, HX2⟩ := hrel
          obtain ⟨k0, k1, k2, k3, k4, k5, kf⟩ := cells28 HX2.out.box
          by_cases hlt : k < N.lines.length
          · obtain ⟨bx, ox, cx, ex, hbx, hcx⟩ := row_elem (f := LineM.cells) (sz := 5) (fun _ => rfl) HX2.out.hl k hlt (by decide)
            cases ex
            obtain ⟨x, hxe⟩ : ∃ x, x = N.lines[k] := ⟨_, rfl⟩
            rw [← hxe] at hcx
            have e0 : wr.cell? ⟨bx, ox + k * 5, none⟩ = some (.string x.name) := hcx 0 _ rfl
            have e1 : wr.cell? ⟨bx, ox + k * 5 + 1, none⟩ = some (.int .i64 x.frm) := hcx 1 _ rfl
            have e2 : wr.cell? ⟨bx, ox + k * 5 + 2, none⟩ = some (.int .i64 x.to) := hcx 2 _ rfl
            have e3 : wr.cell? ⟨bx, ox + k * 5 + 3, none⟩ = some (.int .i64 x.worth) := hcx 3 _ rfl
            have e4 : wr.cell? ⟨bx, ox + k * 5 + 4, none⟩ = some (.int .i64 x.limit) := hcx 4 _ rfl
            have HYes : Hid (LineOk N x → UpTo (LineOk N) N.lines (k + 1)) := fun h => HA.out.snoc hlt (by rw [← hxe]; exact h)
            have HNo : Hid (¬ LineOk N x → ¬ MayM N) := fun h hm => h (hm.lines x (by rw [hxe]; exact List.getElem_mem hlt))
            have HX3 := hide' (fun o => HX2.out.alloc o)
            clear hcx hbx hxe HA HX2
            go_wp2_with (go_at_call 21; refine (inBounds_any _ _ _ _).mono ?_; rintro e w' ⟨rfl, rfl⟩)
            all_goals first
              | (go_roundw
                 case rel => exact ⟨k + 1, by omega, by go_num, HYes.out (by unfold LineOk; simp_all <;> omega), HX3.out _⟩
                 case measure => simp [intOf]; omega)
              | (go_ret
                 exact MayOut.no (HNo.out (by unfold LineOk; simp_all <;> omega)) (HX3.out _).bel)
          · have HD0 := hide' (HA.out.all hlt)
            clear HA
            go_wp2_with fail
            go_loopw [8] (fun i wr => ∃ (k : Nat), k ≤ N.gens.length ∧ i = .int .i64 k ∧ Hid (UpTo (GenOk N) N.gens k) ∧ Hid (Bx1 w wr w.heap.size N (.slice ab N.buses.length cb) (.slice al N.lines.length cl) (.slice ag N.gens.length cg) (.slice ad N.loads.length cd) (.slice at' N.ties.length ct))) (fun i _ => N.gens.length - (intOf i).toNat)
            case atStart => exact ⟨0, by omega, rfl, UpTo.zero _ _, HX2⟩
            case round =>
              clear HX2 k0 k1 k2 k3 k4 k5 kf hlt
              obtain ⟨k, hk, rfl, HA, HX2⟩ := hrel
              obtain ⟨k0, k1, k2, k3, k4, k5, kf⟩ := cells28 HX2.out.box
              by_cases hlt : k < N.gens.length
              · obtain ⟨bx, ox, cx, ex, hbx, hcx⟩ := row_elem (f := GenM.cells) (sz := 5) (fun _ => rfl) HX2.out.hg k hlt (by decide)
                cases ex
                obtain ⟨x, hxe⟩ : ∃ x, x = N.gens[k] := ⟨_, rfl⟩
                rw [← hxe] at hcx
                have e0 : wr.cell? ⟨bx, ox + k * 5, none⟩ = some (.string x.name) := hcx 0 _ rfl
                have e1 : wr.cell? ⟨bx, ox + k * 5 + 1, none⟩ = some (.int .i64 x.bus) := hcx 1 _ rfl
                have e2 : wr.cell? ⟨bx, ox + k * 5 + 2, none⟩ = some (.int .i64 x.least) := hcx 2 _ rfl
                have e3 : wr.cell? ⟨bx, ox + k * 5 + 3, none⟩ = some (.int .i64 x.most) := hcx 3 _ rfl
                have e4 : wr.cell? ⟨bx, ox + k * 5 + 4, none⟩ = some (.int .i64 x.cost) := hcx 4 _ rfl
                have HYes : Hid (GenOk N x → UpTo (GenOk N) N.gens (k + 1)) := fun h => HA.out.snoc hlt (by rw [← hxe]; exact h)
                have HNo : Hid (¬ GenOk N x → ¬ MayM N) := fun h hm => h (hm.gens x (by rw [hxe]; exact List.getElem_mem hlt))
                have HX3 := hide' (fun o => HX2.out.alloc o)
                clear hcx hbx hxe HA HX2
                go_wp2_with (go_at_call 21; refine (inBounds_any _ _ _ _).mono ?_; rintro e w' ⟨rfl, rfl⟩)
                all_goals first
                  | (go_roundw
                     case rel => exact ⟨k + 1, by omega, by go_num, HYes.out (by unfold GenOk; simp_all <;> omega), HX3.out _⟩
                     case measure => simp [intOf]; omega)
                  | (go_ret
                     exact MayOut.no (HNo.out (by unfold GenOk; simp_all <;> omega)) (HX3.out _).bel)
              · have HD1 := hide' (HA.out.all hlt)
                clear HA
                go_wp2_with fail
                go_loopw [10] (fun i wr => ∃ (k : Nat), k ≤ N.loads.length ∧ i = .int .i64 k ∧ Hid (UpTo (LoadOk N) N.loads k) ∧ Hid (Bx1 w wr w.heap.size N (.slice ab N.buses.length cb) (.slice al N.lines.length cl) (.slice ag N.gens.length cg) (.slice ad N.loads.length cd) (.slice at' N.ties.length ct))) (fun i _ => N.loads.length - (intOf i).toNat)
                case atStart => exact ⟨0, by omega, rfl, UpTo.zero _ _, HX2⟩
                case round =>
                  clear HX2 k0 k1 k2 k3 k4 k5 kf hlt
                  obtain ⟨k, hk, rfl, HA, HX2⟩ := hrel
                  obtain ⟨k0, k1, k2, k3, k4, k5, kf⟩ := cells28 HX2.out.box
                  by_cases hlt : k < N.loads.length
                  · obtain ⟨bx, ox, cx, ex, hbx, hcx⟩ := row_elem (f := LoadM.cells) (sz := 3) (fun _ => rfl) HX2.out.hd k hlt (by decide)
                    cases ex
                    obtain ⟨x, hxe⟩ : ∃ x, x = N.loads[k] := ⟨_, rfl⟩
                    rw [← hxe] at hcx
                    have e0 : wr.cell? ⟨bx, ox + k * 3, none⟩ = some (.string x.name) := hcx 0 _ rfl
                    have e1 : wr.cell? ⟨bx, ox + k * 3 + 1, none⟩ = some (.int .i64 x.bus) := hcx 1 _ rfl
                    have e2 : wr.cell? ⟨bx, ox + k * 3 + 2, none⟩ = some (.int .i64 x.power) := hcx 2 _ rfl
                    have HYes : Hid (LoadOk N x → UpTo (LoadOk N) N.loads (k + 1)) := fun h => HA.out.snoc hlt (by rw [← hxe]; exact h)
                    have HNo : Hid (¬ LoadOk N x → ¬ MayM N) := fun h hm => h (hm.loads x (by rw [hxe]; exact List.getElem_mem hlt))
                    have HX3 := hide' (fun o => HX2.out.alloc o)
                    clear hcx hbx hxe HA HX2
                    go_wp2_with (go_at_call 21; refine (inBounds_any _ _ _ _).mono ?_; rintro e w' ⟨rfl, rfl⟩)
                    all_goals first
                      | (go_roundw
                         case rel => exact ⟨k + 1, by omega, by go_num, HYes.out (by unfold LoadOk; simp_all <;> omega), HX3.out _⟩
                         case measure => simp [intOf]; omega)
                      | (go_ret
                         exact MayOut.no (HNo.out (by unfold LoadOk; simp_all <;> omega)) (HX3.out _).bel)
                  · have HD2 := hide' (HA.out.all hlt)
                    clear HA
                    go_wp2_with fail
                    go_loopw [12] (fun i wr => ∃ (k : Nat), k ≤ N.ties.length ∧ i = .int .i64 k ∧ Hid (UpTo (TieOk N) N.ties k) ∧ Hid (Bx1 w wr w.heap.size N (.slice ab N.buses.length cb) (.slice al N.lines.length cl) (.slice ag N.gens.length cg) (.slice ad N.loads.length cd) (.slice at' N.ties.length ct))) (fun i _ => N.ties.length - (intOf i).toNat)
                    case atStart => exact ⟨0, by omega, rfl, UpTo.zero _ _, HX2⟩
                    case round =>
                      clear HX2 k0 k1 k2 k3 k4 k5 kf hlt
                      obtain ⟨k, hk, rfl, HA, HX2⟩ := hrel
                      obtain ⟨k0, k1, k2, k3, k4, k5, kf⟩ := cells28 HX2.out.box
                      by_cases hlt : k < N.ties.length
                      · obtain ⟨bx, ox, cx, ex, hbx, hcx⟩ := row_elem (f := TieM.cells) (sz := 4) (fun _ => rfl) HX2.out.ht k hlt (by decide)
                        cases ex
                        obtain ⟨x, hxe⟩ : ∃ x, x = N.ties[k] := ⟨_, rfl⟩
                        rw [← hxe] at hcx
                        have e0 : wr.cell? ⟨bx, ox + k * 4, none⟩ = some (.string x.name) := hcx 0 _ rfl
                        have e1 : wr.cell? ⟨bx, ox + k * 4 + 1, none⟩ = some (.int .i64 x.frm) := hcx 1 _ rfl
                        have e2 : wr.cell? ⟨bx, ox + k * 4 + 2, none⟩ = some (.int .i64 x.to) := hcx 2 _ rfl
                        have e3 : wr.cell? ⟨bx, ox + k * 4 + 3, none⟩ = some (.bool x.closed) := hcx 3 _ rfl
                        have HYes : Hid (TieOk N x → UpTo (TieOk N) N.ties (k + 1)) := fun h => HA.out.snoc hlt (by rw [← hxe]; exact h)
                        have HNo : Hid (¬ TieOk N x → ¬ MayM N) := fun h hm => h (hm.ties x (by rw [hxe]; exact List.getElem_mem hlt))
                        have HX3 := hide' (fun o => HX2.out.alloc o)
                        clear hcx hbx hxe HA HX2
                        go_wp2_with (go_at_call 21; refine (inBounds_any _ _ _ _).mono ?_; rintro e w' ⟨rfl, rfl⟩)
                        all_goals first
                          | (go_roundw
                             case rel => exact ⟨k + 1, by omega, by go_num, HYes.out (by unfold TieOk; simp_all <;> omega), HX3.out _⟩
                             case measure => simp [intOf]; omega)
                          | (go_ret
                             exact MayOut.no (HNo.out (by unfold TieOk; simp_all <;> omega)) (HX3.out _).bel)
                      · have HD3 := hide' (HA.out.all hlt)
                        clear HA
                        have HR := hide' (MayOut.yes (N := N) (w := w) (w' := wr) ⟨⟨HF.out, HAll.out.1, HAll.out.2, HD0.out, HD1.out, HD2.out, HD3.out⟩, HNM.out⟩ HX2.out.bel)
                        go_wp2
                        go_ret
                        exact HR.out
end Go.Proofs.YtpbalclhdhjnoaaGreatDoor.Doc
