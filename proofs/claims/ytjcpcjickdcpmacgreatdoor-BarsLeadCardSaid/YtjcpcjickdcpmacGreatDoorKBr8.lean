/- The numbers of the groups: the program's reckoning. -/
import Derived.Test.YtjcpcjickdcpmacGreatDoorKBr6
import Derived.Test.YtjcpcjickdcpmacGreatDoorKDc5
namespace Go.Proofs.YtjcpcjickdcpmacGreatDoor.Bar
open Go.RowKit Go.Shelf Doc

theorem bfs_good {n : Nat} {links : List LinkM} (he : Ends n links) : ∀ (f i : Nat) (s : Reach2), Good n s → Good n (bfs links f i s)
  | 0, _, _, h => h
  | f + 1, i, s, h => by
    rw [bfs]
    split
    · next hlt => exact bfs_good he f (i + 1) _ (Good.fold (h.mem _ (getD_in hlt).2) _ h (onw_ends he))
    · exact h
theorem farL_good {n : Nat} {links : List LinkM} {b : Int} (he : Ends n links) (hb : 0 ≤ b ∧ b < n) : Good n (bfs links (n + 1) 0 (start n b)) := bfs_good he _ _ _ (Good.start hb)
theorem farL_len {n : Nat} {links : List LinkM} {b : Int} (he : Ends n links) (hb : 0 ≤ b ∧ b < n) : (farL n links b).length = n := (farL_good he hb).len
/-- The first j buses painted: those that are reached get the number c. -/
def paintTo (fs : List Int) (c : Int) (G : List Int) : Nat → List Int
  | 0 => G
  | j + 1 => if fs.getD j 0 = -1 then paintTo fs c G j else (paintTo fs c G j).set j c
theorem paintTo_len (fs : List Int) (c : Int) (G : List Int) : ∀ j, (paintTo fs c G j).length = G.length
  | 0 => rfl
  | j + 1 => by
    rw [paintTo]
    split
    · exact paintTo_len fs c G j
    · rw [List.length_set, paintTo_len fs c G j]
def gstep (n : Nat) (links : List LinkM) (s : List Int × Nat) (k : Nat) : List Int × Nat := if s.1.getD k 0 = -1 then (paintTo (farL n links k) s.2 s.1 n, s.2 + 1) else s
def groupsS (n : Nat) (links : List LinkM) : Nat → List Int × Nat
  | 0 => (List.replicate n (-1), 0)
  | k + 1 => gstep n links (groupsS n links k) k
def groupsL (n : Nat) (links : List LinkM) : List Int := (groupsS n links n).1
theorem groupsS_len (n : Nat) (links : List LinkM) : ∀ k, (groupsS n links k).1.length = n
  | 0 => by simp [groupsS]
  | k + 1 => by
    rw [groupsS, gstep]
    split
    · rw [paintTo_len, groupsS_len n links k]
    · exact groupsS_len n links k
/-- The lists at work. -/
structure GSt (w W : World) (F : Nat) (g : Array Value) (G : List Int) : Prop where
  hF : W.heap[F]? = some (.cells (ints G).toArray 3 (0, 0))
  bel : Below w.heap.size w W
  box : W.heap[w.heap.size]? = some (.cells g 58 (0, 0))
  hlt : w.heap.size < F
theorem GSt.later {w W W' : World} {F : Nat} {g : Array Value} {G : List Int} (h : GSt w W F g G) (hb : Below W.heap.size W W') : GSt w W' F g G :=
  ⟨(hb.block F (Array.getElem?_eq_some_iff.1 h.hF).1).trans h.hF, h.bel.trans (hb.mono h.bel.size), (hb.block _ (Array.getElem?_eq_some_iff.1 h.box).1).trans h.box, h.hlt⟩
theorem GSt.set {w W : World} {F : Nat} {g : Array Value} {G : List Int} (h : GSt w W F g G) (v : Nat) (x : Int) : GSt w (W.setCell ⟨F, v, none⟩ (.int .i64 x)) F g (G.set v x) := by
  have := h.hlt
  refine ⟨by rw [set_any h.hF v (.int .i64 x), ints_set], h.bel.setCell (p := ⟨F, v, none⟩) (by show w.heap.size ≤ F; omega) _, (Below.heap_setCell _ _ _ _ (by show w.heap.size ≠ F; omega)).trans h.box, h.hlt⟩

set_option maxRecDepth 100000 in
set_option maxHeartbeats 4000000 in
theorem groups_any (n : Nat) (hn : n ≤ 1000) (links : List LinkM) (hlen : links.length ≤ 1000) (hends : Ends n links) (a : Option Addr) (cap : Nat) (w : World)
    (hr : RowAt w (.slice a links.length cap) links.length 4 (links.flatMap LinkM.cells)) :
    Calls Tryz.prog 11 #[.agg #[.int .i64 n, .slice a links.length cap]] w fun e w' => ∃ F, e = .returned (.slice (some ⟨F, 0, none⟩) n n) ∧ w.heap.size ≤ F ∧ w'.heap[F]? = some (.cells (ints (groupsL n links)).toArray 3 (0, 0)) ∧ Below w.heap.size w w' := by
  obtain ⟨W0, hW0⟩ : ∃ W0, W0 = (w.alloc (.cells #[.int .i64 n, .slice a links.length cap] 58)).alloc (.cells #[.int .i64 (-1)] 3) := ⟨_, rfl⟩
  have hrep := Repeat_one (-1) n (w.heap.size + 1) 1 hn W0 (by rw [hW0]; simp)
  have HREP := hide' hrep
  have HW0 := hide' hW0
  have HR := hide' hr
  have HE := hide' hends
  clear hrep hW0 hr hends
  go_enter Tryz.func11, Tryz.ntmps11
  go_wp2_with fail
  rw [← HW0.out]
  refine HREP.out.mono ?_
  rintro e w1 ⟨F, rfl, hF0, hFrow, hb1⟩
  have HST : Hid (GSt w w1 F #[.int .i64 n, .slice a links.length cap] (groupsS n links 0).1) := by
    have hz0 : W0.heap.size = w.heap.size + 2 := by rw [HW0.out]; simp
    have hb2 : Below w.heap.size w w1 := by
      have h2 := hb1
      rw [HW0.out] at h2
      exact (((Below.refl _ w).alloc (Nat.le_refl _) _).alloc (by simp) _).trans (h2.mono (by simp; omega))
    refine ⟨by rw [hFrow, groupsS, ints, List.map_replicate], hb2, ?_, by omega⟩
    have h2 := hb1.block w.heap.size (by omega)
    rw [HW0.out, Below.heap_alloc _ _ _ (by simp), World.alloc_heap_new] at h2
    exact h2
  clear hF0 hFrow hb1
  go_wp2_with fail
  go_loopw [4, 14] (fun c i wr => ∃ (k cnt : Nat), i = .int .i64 k ∧ c = .int .i64 cnt ∧ k ≤ n ∧ cnt ≤ k ∧ Hid (GSt w wr F #[.int .i64 n, .slice a links.length cap] (groupsS n links k).1) ∧ Hid ((groupsS n links k).2 = cnt)) (fun _ i _ => n - (intOf i).toNat)
  case atStart => exact ⟨0, 0, rfl, rfl, Nat.zero_le _, Nat.le_refl _, HST, rfl⟩
  case round =>
    clear HST
    obtain ⟨k, cnt, rfl, rfl, hk, hcn, HST, HC⟩ := hrel
    by_cases hlt : k < n
    · obtain ⟨cK, fK⟩ := intsCell HST.out.hF (j := k) (by rw [groupsS_len]; exact hlt)
      obtain ⟨y, hy⟩ : ∃ y, y = (groupsS n links k).1.getD k 0 := ⟨_, rfl⟩
      rw [← hy] at cK
      by_cases hc : y = -1
      · subst hc
        have hb0 : wr.cell? ⟨w.heap.size, 0, none⟩ = some (.int .i64 n) := by simp only [World.cell?, HST.out.box]; rfl
        have hb1 : wr.cell? ⟨w.heap.size, 1, none⟩ = some (.slice a links.length cap) := by simp only [World.cell?, HST.out.box]; rfl
        have HY := hide' hy
        clear hy
        go_wp2_with fail
        refine (far_any n hn links hlen HE.out a cap (k : Int) ⟨by omega, by omega⟩ wr (RowAt.below HR.out HST.out.bel (Nat.le_refl _))).mono ?_
        rintro e w2 ⟨E, rfl, hE0, hErow, hb2⟩
        have hEF : F ≠ E := by have := (Array.getElem?_eq_some_iff.1 HST.out.hF).1; omega
        have HST2 := hide' (HST.out.later hb2)
        have hgl := groupsS_len n links k
        have hfl := farL_len (b := (k : Int)) HE.out ⟨by omega, by omega⟩
        have HN : Hid (groupsS n links (k + 1) = (paintTo (farL n links (k : Int)) cnt (groupsS n links k).1 n, cnt + 1)) := by
          show _ = _
          rw [groupsS, gstep, ← HY.out, if_pos rfl, HC.out]
        obtain ⟨G, hG⟩ : ∃ G, G = (groupsS n links k).1 := ⟨_, rfl⟩
        obtain ⟨fs, hfs⟩ : ∃ fs, fs = farL n links (k : Int) := ⟨_, rfl⟩
        rw [← hG] at HN HST2 hgl
        rw [← hfs] at HN hErow hfl
        have HER := hide' hErow
        clear hErow hb2 hE0 cK fK hb0 hb1 HY HC HST hfs hG
        go_wp2_with fail
        go_loopw [26] (fun j wr => ∃ (q : Nat), j = .int .i64 q ∧ q ≤ n ∧ Hid (GSt w wr F #[.int .i64 n, .slice a links.length cap] (paintTo fs cnt G q)) ∧ Hid (wr.heap[E]? = some (.cells (ints fs).toArray 3 (0, 0)))) (fun j _ => n - (intOf j).toNat)
        case atStart => exact ⟨0, rfl, Nat.zero_le _, HST2, HER⟩
        case round =>
          clear HST2 HER
          obtain ⟨q, rfl, hq, HST, HER⟩ := hrel
          by_cases hql : q < n
          · obtain ⟨cE, fE⟩ := intsCell HER.out (j := q) (by rw [hfl]; exact hql)
            obtain ⟨cQ, fQ⟩ := intsCell HST.out.hF (j := q) (by rw [paintTo_len, hgl]; exact hql)
            obtain ⟨y, hy⟩ : ∃ y, y = fs.getD q 0 := ⟨_, rfl⟩
            obtain ⟨z, hz⟩ : ∃ z, z = (paintTo fs cnt G q).getD q 0 := ⟨_, rfl⟩
            rw [← hy] at cE
            rw [← hz] at cQ
            clear hz
            by_cases hc : y = -1
            · have HP : Hid (paintTo fs cnt G (q + 1) = paintTo fs cnt G q) := by
                show _ = _
                rw [paintTo, ← hy, if_pos hc]
              subst hc
              clear hy
              go_wp2
              go_roundw
              case rel => exact ⟨q + 1, by go_num, by omega, by rw [HP.out]; exact HST, HER⟩
              case measure => simp [intOf]; omega
            · have HP : Hid (paintTo fs cnt G (q + 1) = (paintTo fs cnt G q).set q cnt) := by
                show _ = _
                rw [paintTo, ← hy, if_neg hc]
              clear hy
              go_wp2
              go_roundw
              case rel => exact ⟨q + 1, by go_num, by omega, by rw [HP.out]; exact HST.out.set q cnt, (Below.heap_setCell _ _ _ _ (fun e => hEF e.symm)).trans HER.out⟩
              case measure => simp [intOf]; omega
          · have hqn : q = n := by omega
            subst hqn
            go_wp2
            go_roundw
            case rel => exact ⟨k + 1, cnt + 1, by go_num, by go_num, by omega, by omega, by rw [HN.out]; exact HST, by rw [HN.out]; rfl⟩
            case measure => simp [intOf]; omega
      · have HN : Hid (groupsS n links (k + 1) = groupsS n links k) := by
          show _ = _
          rw [groupsS, gstep, ← hy, if_neg hc]
        clear hy
        go_wp2
        go_roundw
        case rel => exact ⟨k + 1, cnt, by go_num, rfl, by omega, by omega, by rw [HN.out]; exact HST, by rw [HN.out]; exact HC⟩
        case measure => simp [intOf]; omega
    · have hkn : k = n := by omega
      subst hkn
      go_wp2
      go_ret
      exact ⟨F, rfl, Nat.le_of_lt HST.out.hlt, HST.out.hF, HST.out.bel⟩
end Go.Proofs.YtjcpcjickdcpmacGreatDoor.Bar

namespace Go.Proofs.YtjcpcjickdcpmacGreatDoor.Bar
open Go.RowKit Go.Shelf Doc

def levelL (l : List Int) (a b : Nat) : List Int := if l.getD a 0 < l.getD b 0 then l.set b (l.getD a 0) else l.set a (l.getD b 0)
theorem levelL_len (l : List Int) (a b : Nat) : (levelL l a b).length = l.length := by
  unfold levelL
  split <;> rw [List.length_set]
end Go.Proofs.YtjcpcjickdcpmacGreatDoor.Bar
