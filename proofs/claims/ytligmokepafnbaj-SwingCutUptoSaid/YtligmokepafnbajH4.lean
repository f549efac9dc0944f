/- The stages watch; which have shed. -/
import Derived.Test.YtligmokepafnbajH3
namespace Go.Proofs.Ytligmokepafnbaj
open Go.RowKit Go.Shelf

/-- a stage that the frequency is below sheds -/
def StM.see (s : StM) (f : Option Nat) : StM := ⟨s.lim, s.part, s.gone || flt f (nm s.lim)⟩
def watchS (S : List StM) (f : Option Nat) : List StM := S.map fun s => s.see f
theorem watch_len (S : List StM) (f : Option Nat) : (watchS S f).length = S.length := List.length_map _

/-- the first k have watched -/
def seen (S : List StM) (f : Option Nat) (k : Nat) : List StM := (S.take k).map (fun s => s.see f) ++ S.drop k
theorem seen_len (S : List StM) (f : Option Nat) (k : Nat) (hk : k ≤ S.length) : (seen S f k).length = S.length := by
  simp [seen]; omega
theorem seen_zero (S : List StM) (f : Option Nat) : seen S f 0 = S := by simp [seen]
theorem seen_all (S : List StM) (f : Option Nat) : seen S f S.length = watchS S f := by simp [seen, watchS]
theorem seen_at {S : List StM} (f : Option Nat) {k : Nat} (hk : k < S.length) : (seen S f k)[k]'(by rw [seen_len S f k (Nat.le_of_lt hk)]; exact hk) = S[k] := by
  have h : ((S.take k).map fun s => s.see f).length = k := by simp; omega
  unfold seen
  rw [List.getElem_append_right (by omega), List.getElem_drop]
  simp only [h, Nat.sub_self, Nat.add_zero]
theorem seen_next {S : List StM} (f : Option Nat) {k : Nat} (hk : k < S.length) : seen S f (k + 1) = (seen S f k).set k (S[k].see f) := by
  have h : ((S.take k).map fun s => s.see f).length = k := by simp; omega
  unfold seen
  rw [List.set_append_right _ _ (by omega), h, Nat.sub_self, List.take_add_one, List.getElem?_eq_getElem hk, List.map_append, List.append_assoc]
  congr 1
  rw [List.drop_eq_getElem_cons hk, List.set_cons_zero]
  rfl

theorem see_off {s : StM} {f : Option Nat} (h : flt f (nm s.lim) = true) : s.see f = s.off := by
  unfold StM.see StM.off; rw [h, Bool.or_true]
theorem see_on {s : StM} {f : Option Nat} (h : flt f (nm s.lim) = false) : s.see f = s := by
  unfold StM.see; rw [h, Bool.or_false]

set_option maxRecDepth 100000 in
set_option maxHeartbeats 1600000 in
theorem watch_any (K : Nat) (S : List StM) (f : Nat) (w : World) (h : SAt w K S) (hn : S.length ≤ 1000) :
    Calls Try.prog 21 #[.slice (some ⟨K, 0, none⟩) S.length S.length, .float .f64 f] w fun e w' => e = .returned (.tuple #[]) ∧ SAt w' K (watchS S (nm f)) ∧ But K w w' := by
  have HS := hide' h
  clear h
  go_enter Try.func21, Try.ntmps21
  go_wp2_with fail
  go_loopw [7] (fun i wr => ∃ (k : Nat), i = .int .i64 k ∧ k ≤ S.length ∧ Hid (SAt wr K (seen S (nm f) k)) ∧ Hid (But K w wr)) (fun i _ => S.length - (intOf i).toNat)
  case atStart => exact ⟨0, rfl, Nat.zero_le _, by show SAt _ _ _; rw [seen_zero]; exact HS.out, But.refl _ _⟩
  case round =>
    obtain ⟨k, rfl, hk, HA, HB⟩ := hrel
    by_cases hlt : k < S.length
    · have hlt2 : k < (seen S (nm f) k).length := by rw [seen_len _ _ _ hk]; exact hlt
      have c0 : wr.cell? ⟨K, k * 6, none⟩ = some (.float .f64 S[k].lim) := HA.out.cell hlt2 (j := 0) (by rw [seen_at _ hlt]; rfl)
      have HSH := hide' (shed_any K k _ wr HA.out hlt2)
      rw [seen_at _ hlt] at HSH
      have HO := hide' (order_lt f S[k].lim)
      have HNX := hide' (seen_next (nm f) hlt)
      cases hb : flt (nm f) (nm S[k].lim)
      · have hb2 : (FloatKind.f64.format.order f S[k].lim == some .lt) = false := by rw [HO.out, hb]
        have HN2 : Hid (seen S (nm f) (k + 1) = seen S (nm f) k) := by
          show _ = _
          rw [HNX.out, see_on hb, ← seen_at (nm f) hlt, List.set_getElem_self]
        obtain ⟨x, hx⟩ : ∃ x, x = S[k].lim := ⟨_, rfl⟩
        rw [← hx] at c0 hb2
        clear hlt2 HO HNX hb hx HSH
        go_wp2
        go_roundw
        case rel => exact ⟨k + 1, by go_num, by omega, by show SAt _ _ _; rw [HN2.out]; exact HA.out, HB.out⟩
        case measure => simp [intOf]; omega
      · have hb2 : (FloatKind.f64.format.order f S[k].lim == some .lt) = true := by rw [HO.out, hb]
        rw [see_off hb] at HNX
        obtain ⟨x, hx⟩ : ∃ x, x = S[k].lim := ⟨_, rfl⟩
        rw [← hx] at c0 hb2
        clear hlt2 HO hb hx
        go_wp2_with (go_at_call 26; refine HSH.out.mono ?_; rintro e w1 ⟨rfl, hs1, hb1⟩; have HS1 := hide' hs1; have HB1 := hide' hb1; clear hs1 hb1)
        go_roundw
        case rel => exact ⟨k + 1, by go_num, by omega, by show SAt _ _ _; rw [HNX.out]; exact HS1.out, HB.out.trans HB1.out⟩
        case measure => simp [intOf]; omega
    · have HE : Hid (SAt wr K (watchS S (nm f))) := by
        have hk3 : k = S.length := by omega
        show SAt _ _ _
        rw [← seen_all, ← hk3]; exact HA.out
      clear HA
      go_wp2
      go_end0
      exact ⟨rfl, HE.out, HB.out⟩

theorem Try.info4 : (Try.prog.info? 4).map (fun i => (i.zero, i.size, i.bytes)) = some (some (.bool false), 1, 1) := by kernel_rfl

set_option maxRecDepth 100000 in
set_option maxHeartbeats 1600000 in
theorem haveShed_any (K : Nat) (S : List StM) (w : World) (h : SAt w K S) (hn : S.length ≤ 1000) :
    Calls Try.prog 23 #[.slice (some ⟨K, 0, none⟩) S.length S.length] w fun e w' => ∃ v, e = .returned v ∧ w'.ownsRow w.heap.size 4 1 v S.length ((S.map StM.gone).map Value.bool) ∧ Below w.heap.size w w' := by
  obtain ⟨i4, hi4, h40, h41, h42⟩ := info_parts Try.info4
  have HS := hide' h
  clear h
  go_enter Try.func23, Try.ntmps23
  go_wp2_with (at_make; refine wpList_make_full _ rfl _ _ 23 rfl w.heap.size 4 i4 (.bool false) 1 Try.underlying23 hi4 h40 h41 .i64 .i64 _ _ S.length rfl rfl rfl rfl (by rw [h42]; omega) (by unfold maxLen; omega) (Nat.le_refl _) ?_; intro w1 hown1 hgr1; refine Still.go ?_)
  unfold Still
  have HO1 : Hid (w1.heap[w.heap.size]? = some (.cells ((List.replicate S.length false).map Value.bool).toArray 4 (0, 0))) := by
    have h1 := row_cells hown1
    rw [made_bool] at h1
    rw [List.map_replicate]
    exact h1
  have HB1 : Hid (Below w.heap.size w w1) := (Below.refl _ w).grown hgr1 (Nat.le_refl _) (fun k e => by cases e)
  have HK : Hid (K < w.heap.size) := HS.out.lt
  obtain ⟨G, hG⟩ : ∃ G, G = w.heap.size := ⟨_, rfl⟩
  have HG := hide' hG
  rw [← hG] at HO1 hown1 HK
  simp only [← hG]
  clear hown1 hgr1 hG
  go_wp2_with fail
  go_loopw [10] (fun i wr => ∃ (k : Nat), i = .int .i64 k ∧ k ≤ S.length ∧ Hid (∃ l : List Bool, wr.heap[G]? = some (.cells (l.map Value.bool).toArray 4 (0, 0)) ∧ l.length = S.length ∧ ∀ j, j < k → l[j]? = (S.map StM.gone)[j]?) ∧ Hid (Below G w wr)) (fun i _ => S.length - (intOf i).toNat)
  case atStart => exact ⟨0, rfl, Nat.zero_le _, ⟨_, HO1.out, List.length_replicate, fun j h => absurd h (Nat.not_lt_zero j)⟩, by rw [HG.out]; exact HB1.out⟩
  case round =>
    obtain ⟨k, rfl, hk, HL, HBE⟩ := hrel
    by_cases hlt : k < S.length
    · obtain ⟨l, hl1, hl2, hl3⟩ := HL.out
      have c5 : wr.cell? ⟨K, k * 6 + 5, none⟩ = some (.bool S[k].gone) := (HS.out.below HBE.out HK.out).cell hlt (j := 5) rfl
      have cg : wr.cell? ⟨G, k, none⟩ = some (.bool (l[k]'(by rw [hl2]; exact hlt))) := by
        rw [cells_at hl1, List.getElem?_toArray, List.getElem?_map, List.getElem?_eq_getElem (by rw [hl2]; exact hlt)]; rfl
      have fg : wr.frozen? ⟨G, k, none⟩ = false := frozen_no hl1 k
      obtain ⟨y, hy⟩ : ∃ y, y = l[k]'(by rw [hl2]; exact hlt) := ⟨_, rfl⟩
      rw [← hy] at cg
      have HNX : Hid (∃ l' : List Bool, (wr.setCell ⟨G, k, none⟩ (.bool S[k].gone)).heap[G]? = some (.cells (l'.map Value.bool).toArray 4 (0, 0)) ∧ l'.length = S.length ∧ ∀ j, j < k + 1 → l'[j]? = (S.map StM.gone)[j]?) := by
        refine ⟨l.set k S[k].gone, ?_, by rw [List.length_set]; exact hl2, fun j hj => ?_⟩
        · rw [set_any hl1, List.setIfInBounds_toArray, List.map_set]
        · by_cases e : j = k
          · subst e
            rw [List.getElem?_set_self (by rw [hl2]; exact hlt), List.getElem?_map, List.getElem?_eq_getElem hlt]; rfl
          · rw [List.getElem?_set_ne (fun h => e h.symm)]; exact hl3 j (by omega)
      have HBN : Hid (∀ x, Below G w (wr.setCell ⟨G, k, none⟩ x)) := fun x => Below.setCell (p := ⟨G, k, none⟩) HBE.out (Nat.le_refl _) x
      obtain ⟨x, hx⟩ : ∃ x, x = S[k].gone := ⟨_, rfl⟩
      rw [← hx] at c5 HNX
      clear hl1 hl2 hl3 hy hx HL HBE
      go_wp2
      go_roundw
      case rel => exact ⟨k + 1, by go_num, by omega, HNX.out, HBN.out _⟩
      case measure => simp [intOf]; omega
    · have HE : Hid (wr.heap[G]? = some (.cells ((S.map StM.gone).map Value.bool).toArray 4 (0, 0))) := by
        obtain ⟨l, hl1, hl2, hl3⟩ := HL.out
        have hk3 : k = S.length := by omega
        have : l = S.map StM.gone := by
          refine List.ext_getElem? fun j => ?_
          by_cases hj : j < S.length
          · exact hl3 j (by omega)
          · rw [List.getElem?_eq_none (by omega), List.getElem?_eq_none (by rw [List.length_map]; omega)]
        rw [← this]; exact hl1
      clear HL
      go_wp2
      go_ret
      refine ⟨_, rfl, bools_own HE.out (Nat.le_of_eq HG.out.symm) (List.length_map _) hn, ?_⟩
      rw [← HG.out]; exact HBE.out
end Go.Proofs.Ytligmokepafnbaj
