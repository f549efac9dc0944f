/- All choices of so many units, in the program. -/
import Derived.Test.YtlbeecjkfakkpagEf
import Derived.Test.YtlbeecjkfakkpagDa
namespace Go.Proofs.Ytlbeecjkfakkpag
open Go.RowKit Go.Shelf

/-- The choices at work. -/
structure CSt (w wr : World) (P n k : Nat) (vs : List Value) : Prop where
  len : vs.length = 2 ^ n
  hP : wr.heap[P]? = some (.cells vs.toArray 23 (0, 0))
  sP : w.heap.size ≤ P
  bel : Below w.heap.size w wr
  rows : ∀ j, j < k → ∃ g, vs[j]? = some (.slice (some ⟨g, 0, none⟩) n n) ∧ g ≠ P ∧ wr.heap[g]? = some (.cells ((bits n j).map Value.bool).toArray 4 (0, 0))
theorem CSt.more {w wr wr' : World} {P n k : Nat} {vs : List Value} (h : CSt w wr P n k vs) (hb : Below wr.heap.size wr wr') : CSt w wr' P n k vs :=
  ⟨h.len, (hb.block P (Array.getElem?_eq_some_iff.1 h.hP).1).trans h.hP, h.sP, h.bel.trans (hb.mono h.bel.size), fun j hj => by
    obtain ⟨g, h1, h2, h3⟩ := h.rows j hj
    exact ⟨g, h1, h2, (hb.block g (Array.getElem?_eq_some_iff.1 h3).1).trans h3⟩⟩
/-- A choice at work: its row lies in G. -/
structure CIn (w wr : World) (P G n k : Nat) (vs : List Value) (L : List Bool) : Prop where
  st : CSt w wr P n k vs
  at_ : vs[k]? = some (.slice (some ⟨G, 0, none⟩) n n)
  hG : wr.heap[G]? = some (.cells (L.map Value.bool).toArray 4 (0, 0))
  ne : G ≠ P
  sG : w.heap.size ≤ G
  other : ∀ j, j < k → vs[j]? ≠ some (.slice (some ⟨G, 0, none⟩) n n)
theorem CIn.set {w wr : World} {P G n k m q : Nat} {vs : List Value} {L : List Bool} (h : CIn w wr P G n k vs L) (b : Bool) : CIn w ((wr.drewN q).setCell ⟨G, m, none⟩ (.bool b)) P G n k vs (L.set m b) := by
  have hs : ∀ j, j ≠ G → ((wr.drewN q).setCell ⟨G, m, none⟩ (.bool b)).heap[j]? = wr.heap[j]? := fun j hj => Below.heap_setCell (wr.drewN q) _ _ j hj
  refine ⟨⟨h.st.len, (hs P (fun e => h.ne e.symm)).trans h.st.hP, h.st.sP, (below_drewN h.st.bel q).setCell (p := ⟨G, m, none⟩) h.sG _, fun j hj => ?_⟩, h.at_, ?_, h.ne, h.sG, h.other⟩
  · obtain ⟨g, h1, h2, h3⟩ := h.st.rows j hj
    refine ⟨g, h1, h2, (hs g (fun e => ?_)).trans h3⟩
    subst e
    exact h.other j hj h1
  · rw [set_any (W := wr.drewN q) h.hG m (.bool b)]
    simp
theorem CIn.done {w wr : World} {P G n k : Nat} {vs : List Value} (h : CIn w wr P G n k vs (bits n k)) : CSt w wr P n (k + 1) vs :=
  ⟨h.st.len, h.st.hP, h.st.sP, h.st.bel, fun j hj => by
    by_cases e : j = k
    · subst e; exact ⟨G, h.at_, h.ne, h.hG⟩
    · exact h.st.rows j (by omega)⟩
theorem CSt.signs {w wr : World} {P n : Nat} {vs : List Value} {c : Nat} (h : CSt w wr P n (2 ^ n) vs) : SignsAt wr (.slice (some ⟨P, 0, none⟩) (2 ^ n) c) ((List.range (2 ^ n)).map (bits n)) := by
  refine ⟨vs, by simp [h.len], ⟨by simp [h.len], some ⟨P, 0, none⟩, c, by simp, fun j u hj => ⟨P, 0, rfl, ?_⟩⟩, fun i b hi => ?_⟩
  · simp only [World.cell?, h.hP]
    simpa using hj
  · rw [List.getElem?_map] at hi
    obtain ⟨x, hx, rfl⟩ := Option.map_eq_some_iff.1 hi
    have hlt : i < 2 ^ n := by have := (List.getElem?_eq_some_iff.1 hx).1; simpa using this
    have hxi : x = i := by rw [List.getElem?_range hlt] at hx; exact (Option.some.inj hx).symm
    subst hxi
    obtain ⟨g, h1, _, h3⟩ := h.rows x hlt
    refine ⟨_, h1, by simp [bits_len], _, _, by rw [bits_len], fun j u hj => ⟨g, 0, rfl, ?_⟩⟩
    simp only [World.cell?, h3]
    simpa using hj
theorem wrap_id {x : Int} (h : -1000 ≤ x ∧ x ≤ 1000) : IntKind.i64.wrap x = x := by
  simp [IntKind.wrap, IntKind.bits, IntKind.signed]
  omega
theorem bit_small (y : Fin 17) : Go.bits BinOp.and IntKind.i64 ((y.val : Nat) : Int) 1 = ((y.val % 2 : Nat) : Int) := by
  revert y
  decide
theorem bit_is {n m k : Nat} (hk : k ≤ 16) : (Go.bits BinOp.and IntKind.i64 ((k : Int) / 2 ^ (n - 1 - m)) 1 == 1) = decide (k / 2 ^ (n - 1 - m) % 2 = 1) := by
  have h1 : ((k : Int) / 2 ^ (n - 1 - m)) = ((k / 2 ^ (n - 1 - m) : Nat) : Int) := by simp
  have h2 : k / 2 ^ (n - 1 - m) < 17 := Nat.lt_of_le_of_lt (Nat.div_le_self _ _) (by omega)
  rw [h1, bit_small ⟨_, h2⟩, Bool.eq_iff_iff]
  simp
  omega
theorem made_bool (n : Nat) : (madeCells (Value.bool false).cells (n * 1)).toList = List.replicate n (.bool false) := by
  apply List.ext_getElem
  · simp [madeCells]
  · intro i h1 h2
    simp [madeCells, Value.cells, Nat.mod_one]
theorem made_nil (n : Nat) : (madeCells (Value.slice none 0 0).cells (n * 1)).toList = List.replicate n (.slice none 0 0) := by
  apply List.ext_getElem
  · simp [madeCells]
  · intro i h1 h2
    simp [madeCells, Value.cells, Nat.mod_one]
theorem row_cells {w : World} {B e g n : Nat} {xs : List Value} (h : w.ownsRow B e 1 (.slice (some ⟨g, 0, none⟩) n n) n xs) : w.heap[g]? = some (.cells xs.toArray e (0, 0)) := by
  rcases h.2 with ⟨h1, _⟩ | ⟨g', cap, cur, h1, _, h2, _, _, h3, h4⟩
  · cases h1
  · cases h1
    rw [h2]
    have e1 : cur = xs.toArray := by
      apply Array.ext'
      rw [← h4, List.take_of_length_le (by simp; omega)]
    rw [e1]
set_option maxRecDepth 100000 in
set_option maxHeartbeats 1000000 in
theorem choices_own (n : Nat) (w : World) (h4 : n ≤ 4) : Calls Try.prog 60 #[.int .i64 n] w fun e w' => ∃ P c vs, e = .returned (.slice (some ⟨P, 0, none⟩) (2 ^ n) c) ∧ CSt w w' P n (2 ^ n) vs := by
  obtain ⟨i23, hi23, h230, h231, h232⟩ := info_parts Try.info23
  obtain ⟨i4, hi4, h40, h41, h42⟩ := info_parts Try.info4
  have hpw := Nat.le_trans (Nat.pow_le_pow_right (n := 2) (by decide) h4) (show 2 ^ 4 ≤ 16 by decide)
  obtain ⟨pw, hpwe⟩ : ∃ p, p = 2 ^ n := ⟨_, rfl⟩
  have HPW := hide' hpwe
  have hw : wrap64 ((2 : Int) ^ n) = (pw : Int) := by
    have h1 : ((2 : Int) ^ n) = ((2 ^ n : Nat) : Int) := by simp
    rw [h1, ← hpwe]
    rw [← hpwe] at hpw
    unfold wrap64
    omega
  rw [← hpwe] at hpw ⊢
  clear hpwe
  go_enter Try.func60, Try.ntmps60
  go_wp2_with (at_make; rw [hw]; refine wpList_make_full _ rfl _ _ 32 rfl w.heap.size 23 i23 (.slice none 0 0) 1 Try.underlying32 hi23 h230 h231 .i64 .i64 _ _ pw rfl rfl rfl rfl (by rw [h232]; omega) (by unfold maxLen; omega) (Nat.le_refl _) ?_; intro w2 hown1 hgr; refine Still.go ?_)
  unfold Still
  have HST : Hid (CSt w w2 w.heap.size n 0 (List.replicate pw (.slice none 0 0))) := by
    have h1 := row_cells hown1
    rw [made_nil] at h1
    exact ⟨by rw [List.length_replicate, HPW.out], h1, Nat.le_refl _, (Below.refl _ w).grown hgr (Nat.le_refl _) (fun k e => by cases e), fun j hj => absurd hj (Nat.not_lt_zero j)⟩
  obtain ⟨P, hP⟩ : ∃ P, P = w.heap.size := ⟨_, rfl⟩
  have HST2 : Hid (CSt w w2 P n 0 (List.replicate pw (.slice none 0 0))) := by rw [hP]; exact HST
  rw [← hP]
  clear hown1 hgr hP HST
  go_wp2_with fail
  go_loopw [11] (fun i wr => ∃ (k : Nat) (vs : List Value), i = .int .i64 k ∧ k ≤ pw ∧ Hid (CSt w wr P n k vs)) (fun i _ => pw - (intOf i).toNat)
  case atStart => exact ⟨0, _, rfl, Nat.zero_le _, HST2⟩
  case round =>
    clear HST2
    obtain ⟨k, vs, rfl, hk, HST⟩ := hrel
    by_cases hlt : k < pw
    · go_wp2_with (at_make; refine wpList_make_full _ rfl _ _ 23 rfl wr.heap.size 4 i4 (.bool false) 1 Try.underlying23 hi4 h40 h41 .i64 .i64 _ _ n rfl rfl rfl rfl (by rw [h42]; omega) (by unfold maxLen; omega) (Nat.le_refl _) ?_; intro w3 hown3 hgr3; refine Still.go ?_)
      unfold Still
      have hb3 : Below wr.heap.size wr w3 := (Below.refl _ wr).grown hgr3 (Nat.le_refl _) (fun k e => by cases e)
      have HST3 := hide' (HST.out.more hb3)
      have HG3 : Hid (w3.heap[wr.heap.size]? = some (.cells ((List.replicate n false).map Value.bool).toArray 4 (0, 0))) := by
        have h1 := row_cells hown3
        rw [made_bool] at h1
        rw [List.map_replicate]
        exact h1
      have HPG : Hid (P < wr.heap.size) := (Array.getElem?_eq_some_iff.1 HST.out.hP).1
      have HWG : Hid (w.heap.size ≤ wr.heap.size) := HST.out.bel.size
      have hvk : ∃ u, vs[k]? = some u := ⟨_, List.getElem?_eq_getElem (by rw [HST.out.len, ← HPW.out]; exact hlt)⟩
      obtain ⟨u, hu⟩ := hvk
      have c0 : w3.cell? ⟨P, k, none⟩ = some u := by simp only [World.cell?, HST3.out.hP]; simpa using hu
      have c1 : w3.frozen? ⟨P, k, none⟩ = false := frozen_no HST3.out.hP _
      have HOTH : Hid (∀ j g, j < k → vs[j]? = some (.slice (some ⟨g, 0, none⟩) n n) → g < wr.heap.size) := fun j g hj hg => by
        obtain ⟨g', h1, _, h3⟩ := HST.out.rows j hj
        rw [h1] at hg
        cases hg
        exact (Array.getElem?_eq_some_iff.1 h3).1
      obtain ⟨G, hG⟩ : ∃ G, G = wr.heap.size := ⟨_, rfl⟩
      rw [← hG] at HG3 HPG HWG HOTH ⊢
      clear hown3 hgr3 hb3 HST hu hG
      go_wp2_with fail
      have HCI : Hid (CIn w (w3.setCell ⟨P, k, none⟩ (.slice (some ⟨G, 0, none⟩) n n)) P G n k (vs.set k (.slice (some ⟨G, 0, none⟩) n n)) (List.replicate n false)) := by
        have hs : ∀ j, j ≠ P → (w3.setCell ⟨P, k, none⟩ (.slice (some ⟨G, 0, none⟩) n n)).heap[j]? = w3.heap[j]? := fun j hj => Below.heap_setCell w3 _ _ j hj
        have hl := HST3.out.len
        have hk2 : k < vs.length := by rw [hl, ← HPW.out]; exact hlt
        refine ⟨⟨by rw [List.length_set]; exact hl, ?_, HST3.out.sP, HST3.out.bel.setCell (p := ⟨P, k, none⟩) HST3.out.sP _, fun j hj => ?_⟩, List.getElem?_set_self hk2, (hs G (by have := HPG.out; omega)).trans HG3.out, by have := HPG.out; omega, HWG.out, fun j hj he => ?_⟩
        · rw [set_any HST3.out.hP k _]
          simp
        · obtain ⟨g, h1, h2, h3⟩ := HST3.out.rows j hj
          exact ⟨g, by rw [List.getElem?_set_ne (by omega)]; exact h1, h2, (hs g h2).trans h3⟩
        · rw [List.getElem?_set_ne (by omega)] at he
          have := HOTH.out j G hj he
          omega
      obtain ⟨vs2, hvs2⟩ : ∃ l, l = vs.set k (.slice (some ⟨G, 0, none⟩) n n) := ⟨_, rfl⟩
      obtain ⟨w4, hw4⟩ : ∃ W, W = w3.setCell ⟨P, k, none⟩ (.slice (some ⟨G, 0, none⟩) n n) := ⟨_, rfl⟩
      rw [← hvs2, ← hw4] at HCI
      rw [← hw4]
      clear hvs2 hw4 HST3 HG3 HPG HWG HOTH c0 c1
      go_loopw [20] (fun i W => ∃ (m : Nat), i = .int .i64 m ∧ m ≤ n ∧ Hid (CIn w W P G n k vs2 ((bits n k).take m ++ List.replicate (n - m) false))) (fun i _ => n - (intOf i).toNat)
      case atStart => exact ⟨0, rfl, Nat.zero_le _, HCI⟩
      case round =>
        clear HCI
        obtain ⟨m, rfl, hmn, HCI⟩ := hrel
        by_cases hml : m < n
        · have d0 : wr.cell? ⟨P, k, none⟩ = some (.slice (some ⟨G, 0, none⟩) n n) := by
            simp only [World.cell?, HCI.out.st.hP]
            simpa using HCI.out.at_
          have hk16 : k ≤ 16 := by omega
          have hgl : m < ((bits n k).take m ++ List.replicate (n - m) false).length := by rw [List.length_append, List.length_take, bits_len, List.length_replicate]; omega
          have g0 : wr.cell? ⟨G, m, none⟩ = some (.bool (((bits n k).take m ++ List.replicate (n - m) false)[m]'hgl)) := by
            simp only [World.cell?, HCI.out.hG]
            rw [List.getElem?_toArray, List.getElem?_map, List.getElem?_eq_getElem hgl]
            rfl
          have g1 : wr.frozen? ⟨G, m, none⟩ = false := frozen_no HCI.out.hG _
          have HSET : Hid (((bits n k).take m ++ List.replicate (n - m) false).set m (decide (k / 2 ^ (n - 1 - m) % 2 = 1)) = (bits n k).take (m + 1) ++ List.replicate (n - (m + 1)) false) := by
            show _ = _
            have hb := bits_get n k m hml
            have hbl : m < (bits n k).length := by rw [bits_len]; exact hml
            rw [List.getElem?_eq_getElem hbl] at hb
            rw [List.set_append_right _ _ (by rw [List.length_take, bits_len]; omega), List.length_take, bits_len, Nat.min_eq_left hmn, Nat.sub_self, List.take_succ_eq_append_getElem hbl, Option.some.inj hb, show n - m = (n - (m + 1)) + 1 by omega, List.replicate_succ, List.set_cons_zero, List.append_assoc]
            rfl
          have HNX : Hid (CIn w ((wr.drewN 1).setCell ⟨G, m, none⟩ (.bool (decide (k / 2 ^ (n - 1 - m) % 2 = 1)))) P G n k vs2 ((bits n k).take (m + 1) ++ List.replicate (n - (m + 1)) false)) := by
            have := HCI.out.set (m := m) (q := 1) (decide (k / 2 ^ (n - 1 - m) % 2 = 1))
            rw [HSET.out] at this
            exact this
          obtain ⟨gv, hgv⟩ : ∃ b, b = ((bits n k).take m ++ List.replicate (n - m) false)[m]'hgl := ⟨_, rfl⟩
          rw [← hgv] at g0
          clear hgv HSET hgl
          have hw1 : IntKind.i64.wrap ((n : Int) - 1) = (n : Int) - 1 := wrap_id (by omega)
          have hw2 : IntKind.i64.wrap ((n : Int) - 1 - m) = (n : Int) - 1 - m := wrap_id (by omega)
          go_wp2_with fail
          refine wp_region_tail (fun W => W.cell? ⟨P, k, none⟩ = some (.slice (some ⟨G, 0, none⟩) n n)) 14 (by kernel_rfl) ?_
          refine wpAnyD_takeAt 0 (some 23) (v := ?_) rfl (by kernel_rfl) (by kernel_rfl) (by kernel_rfl) (by kernel_rfl) (by kernel_rfl) (fun _ _ _ h => h) (by exact d0) (fun o hop => ?_) ?_
          rotate_left
          · injection hop with hop
            subst hop
            refine ⟨rfl, fun W hW => ?_⟩
            have s0 := hW
            go_simp
            first
            | rfl
            | (rw [if_neg (by omega)])
            | (rw [hw1])
            | (rw [hw2])
          try simp only [Act.put, List.setIfInBounds_toArray, List.set_cons_zero, List.set_cons_succ]
          try rw [hw1]
          try rw [hw2]
          refine wpAnyD_takeAt 1 (some 24) (v := ?_) rfl (by kernel_rfl) (by kernel_rfl) (by kernel_rfl) (by kernel_rfl) (by kernel_rfl) (fun _ _ _ h => h) (by exact d0) (fun o hop => ?_) ?_
          rotate_left
          · injection hop with hop
            subst hop
            refine ⟨rfl, fun W hW => ?_⟩
            have s0 := hW
            go_simp
            first
            | rfl
            | (rw [if_neg (by omega)])
            | (rw [hw1])
            | (rw [hw2])
          try simp only [Act.put, List.setIfInBounds_toArray, List.set_cons_zero, List.set_cons_succ]
          try rw [hw1]
          try rw [hw2]
          refine wpAnyD_takeAt 2 (some 25) (v := ?_) rfl (by kernel_rfl) (by kernel_rfl) (by kernel_rfl) (by kernel_rfl) (by kernel_rfl) (fun _ _ _ h => h) (by exact d0) (fun o hop => ?_) ?_
          rotate_left
          · injection hop with hop
            subst hop
            refine ⟨rfl, fun W hW => ?_⟩
            have s0 := hW
            go_simp
            first
            | rfl
            | (rw [if_neg (by omega)])
            | (rw [hw1])
            | (rw [hw2])
          try simp only [Act.put, List.setIfInBounds_toArray, List.set_cons_zero, List.set_cons_succ]
          try rw [hw1]
          try rw [hw2]
          refine wpAnyD_takeAt 3 (some 26) (v := ?_) rfl (by kernel_rfl) (by kernel_rfl) (by kernel_rfl) (by kernel_rfl) (by kernel_rfl) (fun _ _ _ h => h) (by exact d0) (fun o hop => ?_) ?_
          rotate_left
          · injection hop with hop
            subst hop
            refine ⟨rfl, fun W hW => ?_⟩
            have s0 := hW
            go_simp
            first
            | rfl
            | (rw [if_neg (by omega)])
            | (rw [hw1])
            | (rw [hw2])
          try simp only [Act.put, List.setIfInBounds_toArray, List.set_cons_zero, List.set_cons_succ]
          try rw [hw1]
          try rw [hw2]
          refine wpAnyD_takeAt 4 (some 27) (v := ?_) rfl (by kernel_rfl) (by kernel_rfl) (by kernel_rfl) (by kernel_rfl) (by kernel_rfl) (fun _ _ _ h => h) (by exact d0) (fun o hop => ?_) ?_
          rotate_left
          · injection hop with hop
            subst hop
            refine ⟨rfl, fun W hW => ?_⟩
            have s0 := hW
            go_simp
            first
            | rfl
            | (rw [if_neg (by omega)])
            | (rw [hw1])
            | (rw [hw2])
          try simp only [Act.put, List.setIfInBounds_toArray, List.set_cons_zero, List.set_cons_succ]
          try rw [hw1]
          try rw [hw2]
          refine wpAnyD_takeAt 5 (some 28) (v := ?_) rfl (by kernel_rfl) (by kernel_rfl) (by kernel_rfl) (by kernel_rfl) (by kernel_rfl) (fun _ _ _ h => h) (by exact d0) (fun o hop => ?_) ?_
          rotate_left
          · injection hop with hop
            subst hop
            refine ⟨rfl, fun W hW => ?_⟩
            have s0 := hW
            go_simp
            first
            | rfl
            | (rw [if_neg (by omega)])
            | (rw [hw1])
            | (rw [hw2])
          try simp only [Act.put, List.setIfInBounds_toArray, List.set_cons_zero, List.set_cons_succ]
          try rw [hw1]
          try rw [hw2]
          refine wpAnyD_takeAt 6 (some 29) (v := ?_) rfl (by kernel_rfl) (by kernel_rfl) (by kernel_rfl) (by kernel_rfl) (by kernel_rfl) (fun _ _ _ h => h) (by exact d0) (fun o hop => ?_) ?_
          rotate_left
          · injection hop with hop
            subst hop
            refine ⟨rfl, fun W hW => ?_⟩
            have s0 := hW
            go_simp
            first
            | rfl
            | (rw [if_neg (by omega)])
            | (rw [hw1])
            | (rw [hw2])
          try simp only [Act.put, List.setIfInBounds_toArray, List.set_cons_zero, List.set_cons_succ]
          try rw [hw1]
          try rw [hw2]
          refine wpAnyD_takeAt 7 (some 30) (v := ?_) rfl (by kernel_rfl) (by kernel_rfl) (by kernel_rfl) (by kernel_rfl) (by kernel_rfl) (fun _ _ _ h => h) (by exact d0) (fun o hop => ?_) ?_
          rotate_left
          · injection hop with hop
            subst hop
            refine ⟨rfl, fun W hW => ?_⟩
            have s0 := hW
            go_simp
            first
            | rfl
            | (rw [if_neg (by omega)])
            | (rw [hw1])
            | (rw [hw2])
          try simp only [Act.put, List.setIfInBounds_toArray, List.set_cons_zero, List.set_cons_succ]
          try rw [hw1]
          try rw [hw2]
          refine wpAnyD_takeAt 8 (some 31) (v := ?_) rfl (by kernel_rfl) (by kernel_rfl) (by kernel_rfl) (by kernel_rfl) (by kernel_rfl) (fun _ _ _ h => h) (by exact d0) (fun o hop => ?_) ?_
          rotate_left
          · injection hop with hop
            subst hop
            refine ⟨rfl, fun W hW => ?_⟩
            have s0 := hW
            go_simp
            first
            | rfl
            | (rw [if_neg (by omega)])
            | (rw [hw1])
            | (rw [hw2])
          try simp only [Act.put, List.setIfInBounds_toArray, List.set_cons_zero, List.set_cons_succ]
          try rw [hw1]
          try rw [hw2]
          refine wpAnyD_takeAt 9 (some 32) (v := ?_) rfl (by kernel_rfl) (by kernel_rfl) (by kernel_rfl) (by kernel_rfl) (by kernel_rfl) (fun _ _ _ h => h) (by exact d0) (fun o hop => ?_) ?_
          rotate_left
          · injection hop with hop
            subst hop
            refine ⟨rfl, fun W hW => ?_⟩
            have s0 := hW
            go_simp
            first
            | rfl
            | (rw [if_neg (by omega)])
            | (rw [hw1])
            | (rw [hw2])
          try simp only [Act.put, List.setIfInBounds_toArray, List.set_cons_zero, List.set_cons_succ]
          try rw [hw1]
          try rw [hw2]
          refine wpAnyD_takeAt 10 (some 33) (v := ?_) rfl (by kernel_rfl) (by kernel_rfl) (by kernel_rfl) (by kernel_rfl) (by kernel_rfl) (fun _ _ _ h => h) (by exact d0) (fun o hop => ?_) ?_
          rotate_left
          · injection hop with hop
            subst hop
            refine ⟨rfl, fun W hW => ?_⟩
            have s0 := hW
            go_simp
            first
            | rfl
            | (rw [if_neg (by omega)])
            | (rw [hw1])
            | (rw [hw2])
          try simp only [Act.put, List.setIfInBounds_toArray, List.set_cons_zero, List.set_cons_succ]
          try rw [hw1]
          try rw [hw2]
          refine wpAnyD_takeAt 11 (some 34) (v := ?_) rfl (by kernel_rfl) (by kernel_rfl) (by kernel_rfl) (by kernel_rfl) (by kernel_rfl) (fun _ _ _ h => h) (by exact d0) (fun o hop => ?_) ?_
          rotate_left
          · injection hop with hop
            subst hop
            refine ⟨rfl, fun W hW => ?_⟩
            have s0 := hW
            go_simp
            first
            | rfl
            | (rw [if_neg (by omega)])
            | (rw [hw1])
            | (rw [hw2])
          try simp only [Act.put, List.setIfInBounds_toArray, List.set_cons_zero, List.set_cons_succ]
          try rw [hw1]
          try rw [hw2]
          refine wpAnyD_takeAt 12 (some 35) (v := ?_) rfl (by kernel_rfl) (by kernel_rfl) (by kernel_rfl) (by kernel_rfl) (by kernel_rfl) (fun _ _ _ h => h) (by exact d0) (fun o hop => ?_) ?_
          rotate_left
          · injection hop with hop
            subst hop
            refine ⟨rfl, fun W hW => ?_⟩
            have s0 := hW
            go_simp
            first
            | rfl
            | (rw [if_neg (by omega)])
            | (rw [hw1])
            | (rw [hw2])
          try simp only [Act.put, List.setIfInBounds_toArray, List.set_cons_zero, List.set_cons_succ]
          try rw [hw1]
          try rw [hw2]
          rw [bit_is (n := n) (m := m) hk16] at *
          refine wpAnyT_one (i := 13) (by kernel_rfl) rfl rfl (fun K' hK => ?_)
          go_simp
          refine hK.out _ _ (fun _ => by exact d0) ?_
          clear hK K'
          refine wpAnyT_one (i := 14) (by kernel_rfl) rfl rfl (fun K' hK => ?_)
          go_simp
          refine hK.out _ _ (fun h => absurd rfl h) ?_
          clear hK K'
          refine wpAnyT_done (by kernel_rfl) ?_ _
          go_wp2
          go_roundw
          case rel => exact ⟨m + 1, by go_num, by omega, HNX⟩
          case measure => simp [intOf]; omega
        · have hme : m = n := by omega
          subst hme
          have HDN : Hid (CSt w wr P m (k + 1) vs2) := by
            have := HCI.out
            rw [Nat.sub_self, List.replicate_zero, List.append_nil, List.take_of_length_le (by rw [bits_len]; exact Nat.le_refl _)] at this
            exact this.done
          go_wp2
          go_roundw
          case rel => exact ⟨k + 1, vs2, by go_num, by omega, HDN⟩
          case measure => simp [intOf]; omega
    · have hke : k = pw := by omega
      subst hke
      go_wp2
      go_ret
      exact ⟨P, k, vs, rfl, HST.out⟩
theorem choices_any (n : Nat) (w : World) (h4 : n ≤ 4) : Calls Try.prog 60 #[.int .i64 n] w fun e w' => ∃ v, e = .returned v ∧ SignsAt w' v ((List.range (2 ^ n)).map (bits n)) ∧ Below w.heap.size w w' := by
  refine (choices_own n w h4).mono ?_
  rintro e w' ⟨P, c, vs, rfl, h⟩
  exact ⟨_, rfl, h.signs, h.bel⟩
end Go.Proofs.Ytlbeecjkfakkpag
