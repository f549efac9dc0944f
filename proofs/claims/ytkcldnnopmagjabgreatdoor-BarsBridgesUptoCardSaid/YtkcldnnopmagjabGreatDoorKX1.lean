/- Plain facts: a line splits its island just if the search without it does not reach its other end; so the document's bridges are the program's. -/
import Derived.Test.YtkcldnnopmagjabGreatDoorKBp0
import Derived.Test.YtkcldnnopmagjabGreatDoorKBrb
import Derived.Deep.RegionLaw
import Derived.Lib.SliceRun
import Derived.BigQuiet
import Derived.Deep.Cut
import Derived.Deep.CutRange
import Derived.Test.YtkcldnnopmagjabGreatDoorKBrf
namespace Go.Proofs.YtkcldnnopmagjabGreatDoor.Bar

theorem cntR_mono (R : Nat → Nat) (a : Nat) : ∀ m, cntR R a ≤ cntR R (a + m)
  | 0 => Nat.le_refl _
  | m + 1 => by
    have := cntR_mono R a m
    rw [← Nat.add_assoc, cntR]
    split <;> omega
theorem cntR_lt {R : Nat → Nat} {a b : Nat} (ha : R a = a) (h : a < b) : cntR R a < cntR R b := by
  have h1 := cntR_mono R (a + 1) (b - (a + 1))
  rw [show a + 1 + (b - (a + 1)) = b by omega, cntR, if_pos ha] at h1
  omega
/-- Two buses bear one number just if they are joined. -/
theorem groups_iff {n : Nat} {links : List LinkM} (he : Ends n links) {a b : Nat} (ha : a < n) (hb : b < n) : (groupsL n links).getD a 0 = (groupsL n links).getD b 0 ↔ Conn links (a : Int) (b : Int) := by
  obtain ⟨R, hR⟩ := roots_exist links
  have h1 := (groups_spec hR he n (Nat.le_refl _)).2
  have ea : (groupsL n links).getD a 0 = (cntR R (R a) : Int) := by
    have := h1 a ha
    rwa [if_pos (Nat.lt_of_le_of_lt (hR a).1 ha)] at this
  have eb : (groupsL n links).getD b 0 = (cntR R (R b) : Int) := by
    have := h1 b hb
    rwa [if_pos (Nat.lt_of_le_of_lt (hR b).1 hb)] at this
  rw [ea, eb, root_iff hR]
  constructor
  · intro h
    rcases Nat.lt_trichotomy (R a) (R b) with hl | hl | hl
    · have := cntR_lt (root_root hR a) hl
      omega
    · exact hl
    · have := cntR_lt (root_root hR b) hl
      omega
  · intro h
    rw [h]
/-- The search misses a bus just if its number is another one. -/
theorem far_groups {n : Nat} {links : List LinkM} (he : Ends n links) {a b : Nat} (ha : a < n) (hb : b < n) : (farL n links a).getD b 0 = -1 ↔ (groupsL n links).getD a 0 ≠ (groupsL n links).getD b 0 := by
  have h1 := (far_spec he ha).1 b hb
  rw [Ne, groups_iff he ha hb, ← h1]
  constructor
  · intro h h2; exact h2 h
  · intro h
    exact Classical.byContradiction h
theorem linksN_less {ls : List LineM} {out : List Bool} {k : Nat} (hk : k < out.length) {t : LineM} (ht : ls[k]? = some t) (ho : out.getD k false = false) : ∀ m, ∃ rest, linksN ls out (k + 1 + m) = linksN ls out k ++ [⟨false, (k : Int), t.frm, t.to⟩] ++ rest ∧ linksN ls (out.set k true) (k + 1 + m) = linksN ls out k ++ rest
  | 0 => by
    have hb : ∀ j, j ≤ k → linksN ls (out.set k true) j = linksN ls out j := by
      intro j
      induction j with
      | zero => intro _; rfl
      | succ j ih =>
        intro hj
        rw [linksN, linksN, ih (by omega), List.getD_eq_getElem?_getD, List.getElem?_set_ne (by omega), ← List.getD_eq_getElem?_getD]
    refine ⟨[], ?_, ?_⟩
    · show linksN ls out (k + 1) = _
      rw [linksN, ht, List.append_nil]
      simp only [ho, Bool.false_eq_true, if_false]
    · show linksN ls (out.set k true) (k + 1) = _
      rw [linksN, ht, List.append_nil, hb k (Nat.le_refl _)]
      have : (out.set k true).getD k false = true := by
        rw [List.getD_eq_getElem?_getD, List.getElem?_set_self hk]; rfl
      simp only [this, if_true]
  | m + 1 => by
    obtain ⟨r, h1, h2⟩ := linksN_less hk ht ho m
    have hg : (out.set k true).getD (k + 1 + m) false = out.getD (k + 1 + m) false := by
      rw [List.getD_eq_getElem?_getD, List.getElem?_set_ne (by omega), ← List.getD_eq_getElem?_getD]
    rw [← Nat.add_assoc, linksN, linksN, hg]
    cases ls[k + 1 + m]? with
    | none => exact ⟨r, h1, h2⟩
    | some x =>
      simp only
      split
      · exact ⟨r, h1, h2⟩
      · exact ⟨r ++ [_], by rw [h1, List.append_assoc], by rw [h2, List.append_assoc]⟩
theorem erase_mid {α : Type} (A R : List α) (x : α) : (A ++ [x] ++ R).eraseIdx A.length = A ++ R := by
  induction A with
  | nil => rfl
  | cons a r ih => simp only [List.cons_append, List.length_cons, List.eraseIdx_cons_succ]; rw [ih]
theorem get_mid {α : Type} (A R : List α) (x : α) : (A ++ [x] ++ R)[A.length]? = some x := by
  rw [List.append_assoc, List.getElem?_append_right (Nat.le_refl _), Nat.sub_self]
  rfl
/-- The k-th line in service: where its link stands, and what is left without it. -/
theorem service_less {N : NetM} {out : List Bool} (hol : out.length = N.lines.length) {k : Nat} {t : LineM} (ht : N.lines[k]? = some t) (ho : out.getD k false = false) :
    (serviceL N out)[(linksN N.lines out k).length]? = some ⟨false, (k : Int), t.frm, t.to⟩ ∧ (serviceL N out).eraseIdx (linksN N.lines out k).length = serviceL N (out.set k true) := by
  have hk : k < N.lines.length := (List.getElem?_eq_some_iff.1 ht).1
  obtain ⟨r, h1, h2⟩ := linksN_less (ls := N.lines) (by rw [hol]; exact hk) ht ho (N.lines.length - (k + 1))
  rw [show k + 1 + (N.lines.length - (k + 1)) = N.lines.length by omega] at h1 h2
  rw [serviceL, serviceL, h1, h2, List.append_assoc]
  exact ⟨get_mid _ _ _, by rw [erase_mid, List.append_assoc]⟩
/-- The program's bridges, link by link. -/
def bridgesS (n : Nat) (links : List LinkM) : Nat → List Int
  | 0 => []
  | i + 1 => match links[i]? with
    | some k => if k.tie = false ∧ (farL n (links.eraseIdx i) k.p).getD k.q.toNat 0 = -1 then bridgesS n links i ++ [k.no] else bridgesS n links i
    | none => bridgesS n links i
def bridgesL (n : Nat) (links : List LinkM) : List Int := bridgesS n links links.length
theorem bridgesS_len (n : Nat) (links : List LinkM) : ∀ k, (bridgesS n links k).length ≤ k
  | 0 => Nat.le_refl _
  | k + 1 => by
    have := bridgesS_len n links k
    rw [bridgesS]
    split
    · split
      · rw [List.length_append]; simp; omega
      · omega
    · omega
theorem linksT_tie (ts : List TieM) : ∀ k, ∀ l ∈ linksT ts k, l.tie = true
  | 0, _, h => by cases h
  | k + 1, l, h => by
    rw [linksT] at h
    split at h
    · split at h
      · rcases List.mem_append.1 h with h | h
        · exact linksT_tie ts k l h
        · rw [List.mem_singleton.1 h]
      · exact linksT_tie ts k l h
    · exact linksT_tie ts k l h
theorem bridges_ties {n : Nat} {A B : List LinkM} (hB : ∀ l ∈ B, l.tie = true) : ∀ m, bridgesS n (A ++ B) (A.length + m) = bridgesS n (A ++ B) A.length
  | 0 => rfl
  | m + 1 => by
    have ih := bridges_ties (n := n) (A := A) hB m
    rw [← Nat.add_assoc, bridgesS]
    cases h : (A ++ B)[A.length + m]? with
    | none => exact ih
    | some k =>
      rw [List.getElem?_append_right (by omega)] at h
      have := hB k (List.mem_of_getElem? h)
      simp only [this, Bool.true_eq_false, false_and, if_false]
      exact ih
end Go.Proofs.YtkcldnnopmagjabGreatDoor.Bar

/- The library's copy of a list of links, and a list without one of them. -/
namespace Go.Proofs.YtkcldnnopmagjabGreatDoor.Bar
open Go.RowKit Go.Shelf Doc

theorem links_one' (ls : List LinkM) : ∀ u ∈ ls.flatMap LinkM.cells, u.oneCell' = true := by
  intro u hu
  obtain ⟨x, _, hx⟩ := List.mem_flatMap.1 hu
  simp only [LinkM.cells, List.mem_cons, List.not_mem_nil, or_false] at hx
  rcases hx with rfl | rfl | rfl | rfl <;> rfl
theorem links_flat_len (ls : List LinkM) : (ls.flatMap LinkM.cells).length = ls.length * 4 := by
  induction ls with
  | nil => rfl
  | cons x r ih => rw [List.flatMap_cons, List.length_append, ih, List.length_cons]; show 4 + _ = _; omega

set_option maxRecDepth 100000 in
set_option maxHeartbeats 2000000 in
theorem Clone_any (links : List LinkM) (b off c : Nat) (w : World) (hlen : links.length ≤ 1000) (hr : RowAt w (.slice (some ⟨b, off, none⟩) links.length c) links.length 4 (links.flatMap LinkM.cells)) :
    Calls Tryz.prog 69 #[.slice (some ⟨b, off, none⟩) links.length c] w fun e w' => ∃ v', e = .returned v' ∧ w'.ownsRow w.heap.size 117 4 v' links.length (links.flatMap LinkM.cells) ∧ Below w.heap.size w w' := by
  obtain ⟨i0, hi0, hzz0, hzz1, hzz2⟩ := info_parts Tryz.info117
  have q22 : ∀ (w : World) (a : Option Addr) (n c n' c' : Nat), (binOp .eql 77 (.slice a n c) (.slice none n' c')).run Tryz.prog w = .ok (.bool a.isNone) w := fun w a n c n' c' => Lib.run_eql_slice_nil w _ _ a n c n' c' Tryz.underlying77
  have HCN : Hid (∀ j u, (links.flatMap LinkM.cells)[j]? = some u → w.cell? ⟨b, off + j, none⟩ = some u) := fun j u hj => by
    obtain ⟨-, a', c', e, hc⟩ := hr
    cases e
    obtain ⟨b', off', e1, hc1⟩ := hc j u hj
    cases e1
    exact hc1
  clear hr
  go_enter Tryz.func69, Tryz.ntmps69
  go_wp2_with (at_builtin; refine wpList_append_own _ rfl _ _ 77 rfl w.heap.size 117 i0 _ 4 32 Tryz.underlying77 hi0 hzz0 hzz1 hzz2 rfl (by decide) _ _ _ rfl (World.ownsRow_made w #[] 0 (Nat.le_refl _) (Nat.zero_le _) (by simp)) ⟨b, off, none⟩ links.length c (links.flatMap LinkM.cells) rfl (links_flat_len links) (fun j u hj => by rw [Addr.add_lit]; exact Lib.cell?_alloc_some _ (HCN.out j u hj)) (links_one' links) (by rw [Nat.zero_add]; unfold maxLen; omega) (by rw [Nat.zero_add]; omega) (by simp) ?_; intro v' w1 hown hgrow _; refine Still.go ?_)
  unfold Still
  have HOW := hide' hown
  have hg : (w.alloc (.cells #[] 117)).grownBy w1 (some w.heap.size) := hgrow
  have HB : Hid (Below w.heap.size w w1) := ((Below.refl _ w).alloc (Nat.le_refl _) _).grown hg (by simp) (fun k e => by cases e; exact Nat.le_refl _)
  clear hown hgrow hg
  go_wp2
  go_ret
  exact ⟨v', rfl, by have := HOW.out; simpa using this, HB.out⟩

/-- clear(s), s a list of one link: its four cells hold nought. -/
theorem run_clear_link (w : World) (ty : TypeId) (b o c : Nat) (hc : ∀ j, j < 4 → (w.cell? ⟨b, o + j, none⟩).isSome = true) (hf : ∀ j, j < 4 → w.frozen? ⟨b, o + j, none⟩ = false) :
    (Builtin.clear_ #[77] ty #[.slice (some ⟨b, o, none⟩) 1 c]).run Tryz.prog w = .ok (.tuple #[]) (w.setCells b o [.bool false, .int .i64 0, .int .i64 0, .int .i64 0]) := by
  have hv : ∀ w, (zeroValue 117).run Tryz.prog w = .ok (.agg #[.bool false, .int .i64 0, .int .i64 0, .int .i64 0]) w := fun w => by
    obtain ⟨i0, hi0, hzz0, hzz1, hzz2⟩ := info_parts Tryz.info117
    simp [zeroValue, typeInfo, hi0, hzz0]
  have hzc : (Builtin.zeroCells (Value.agg #[.bool false, .int .i64 0, .int .i64 0, .int .i64 0]).cells 1).toList = [.bool false, .int .i64 0, .int .i64 0, .int .i64 0] := by kernel_rfl
  have hst := run_storeCells_cells (P := Tryz.prog) b o [.bool false, .int .i64 0, .int .i64 0, .int .i64 0] 0 w (by simpa using hc) (by simpa using hf) (by intro v hv'; simp at hv'; rcases hv' with rfl | rfl <;> rfl)
  simp only [Nat.add_zero] at hst
  simp [Builtin.clear_, run_underlying Tryz.underlying77, hv, hzc, hst]
theorem only_cells {g : Nat} {a : World} : ∀ (vs : List Value) (o : Nat) {w : World}, Only g a w → Only g a (w.setCells g o vs)
  | [], _, _, h => h
  | v :: r, o, w, h => only_cells r (o + 1) (by
      have h2 := Only.set g o v w
      exact ⟨h2.os.trans h.os, h2.tape.trans h.tape, h2.output.trans h.output, h2.size.trans h.size, fun k hk => (h2.block k hk).trans (h.block k hk)⟩)

set_option maxRecDepth 100000 in
set_option maxHeartbeats 4000000 in
theorem Delete_any (links : List LinkM) (i g cp : Nat) (w : World) (hi : i < links.length) (hlen : links.length ≤ 1000) (hcp : links.length ≤ cp) (hr : RowAt w (.slice (some ⟨g, 0, none⟩) links.length cp) links.length 4 (links.flatMap LinkM.cells)) (hfz : ∀ j, w.frozen? ⟨g, j, none⟩ = false) :
    Calls Tryz.prog 68 #[.slice (some ⟨g, 0, none⟩) links.length cp, .int .i64 (i : Int), .int .i64 ((i : Int) + 1)] w fun e w' => e = .returned (.slice (some ⟨g, 0, none⟩) (links.length - 1) cp) ∧ RowAt w' (.slice (some ⟨g, 0, none⟩) (links.length - 1) cp) (links.length - 1) 4 ((links.eraseIdx i).flatMap LinkM.cells) ∧ Only g w w' := by
  obtain ⟨i0, hi0, hzz0, hzz1, hzz2⟩ := info_parts Tryz.info117
  have hcell : ∀ j u, (links.flatMap LinkM.cells)[j]? = some u → w.cell? ⟨g, j, none⟩ = some u := fun j u hj => by
    obtain ⟨-, a', c', e, hc⟩ := hr
    cases e
    obtain ⟨b', off', e1, hc1⟩ := hc j u hj
    cases e1
    rwa [Nat.zero_add] at hc1
  have hfl := links_flat_len links
  have hthere : ∀ j, j < links.length * 4 → (w.cell? ⟨g, j, none⟩).isSome = true := fun j hj => by
    rw [hcell j _ (List.getElem?_eq_getElem (by rw [hfl]; exact hj))]; rfl
  obtain ⟨news, hnews⟩ : ∃ news, news = (links.drop (i + 1)).flatMap LinkM.cells := ⟨_, rfl⟩
  have hnl : news.length = (links.length - (i + 1)) * 4 := by rw [hnews, links_flat_len, List.length_drop]
  have hsplit : links.flatMap LinkM.cells = (links.take (i + 1)).flatMap LinkM.cells ++ news := by
    rw [hnews, ← List.flatMap_append, List.take_append_drop]
  have htl : ((links.take (i + 1)).flatMap LinkM.cells).length = (i + 1) * 4 := by rw [links_flat_len, List.length_take]; omega
  have hnc : ∀ t u, news[t]? = some u → w.cell? ⟨g, (i + 1) * 4 + t, none⟩ = some u := fun t u hu => hcell _ _ (by
    rw [hsplit, List.getElem?_append_right (by omega), htl, show (i + 1) * 4 + t - (i + 1) * 4 = t by omega]; exact hu)
  obtain ⟨A, hA, hsrc⟩ : ∃ A : Addr, (if cp = i + 1 then some (⟨g, 0, none⟩ : Addr) else some ⟨g, (i + 1) * 4, none⟩) = some A ∧ Hid (∀ t u, news[t]? = some u → w.drew.cell? (A.add t) = some u) := by
    by_cases h : cp = i + 1
    · refine ⟨⟨g, 0, none⟩, by simp [h], fun t u hu => ?_⟩
      have h0 : news.length = 0 := by rw [hnl]; omega
      rw [List.length_eq_zero_iff.1 h0] at hu
      simp at hu
    · refine ⟨⟨g, (i + 1) * 4, none⟩, by simp [h], fun t u hu => ?_⟩
      rw [Addr.add_lit]
      exact hnc t u hu
  have s1 : Hid (news.length = (links.length - (i + 1)) * 4) := hnl
  have s2 : Hid (∀ u ∈ news, u.oneCell' = true) := by rw [hnews]; exact links_one' _
  have s3 : Hid (∀ t, t < news.length → (w.drew.cell? ⟨g, 0 + i * 4 + t, none⟩).isSome = true ∧ w.drew.frozen? ⟨g, 0 + i * 4 + t, none⟩ = false) := fun t ht => ⟨by
    show (w.cell? _).isSome = true
    refine hthere _ ?_
    rw [hnl] at ht
    omega, hfz _⟩
  obtain ⟨W1, hW1⟩ : ∃ W1, W1 = w.drew.setCells g (0 + i * 4) news := ⟨_, rfl⟩
  have hth1 : ∀ j, j < links.length * 4 → (W1.cell? ⟨g, j, none⟩).isSome = true := fun j hj => by
    rw [hW1]
    by_cases h : 0 + i * 4 ≤ j ∧ j < 0 + i * 4 + news.length
    · have := World.cell?_setCells_in g news (0 + i * 4) w.drew (fun t ht => (s3.out t ht).1) (j - (0 + i * 4)) (by omega)
      rw [show 0 + i * 4 + (j - (0 + i * 4)) = j by omega] at this
      rw [this]; rfl
    · rw [World.cell?_setCells_out g news (0 + i * 4) w.drew ⟨g, j, none⟩ (fun _ _ => by show j < _ ∨ _ ≤ j; omega)]
      exact hthere j hj
  have hfz1 : ∀ j, W1.frozen? ⟨g, j, none⟩ = false := fun j => by rw [hW1, World.frozen?_setCells]; exact hfz j
  have hcl : ∀ ty, (Builtin.clear_ #[77] ty #[.slice (some ⟨g, (links.length - 1) * 4, none⟩) 1 (cp - (links.length - 1))]).run Tryz.prog W1 = .ok (.tuple #[]) (W1.setCells g ((links.length - 1) * 4) [.bool false, .int .i64 0, .int .i64 0, .int .i64 0]) :=
    fun ty => run_clear_link W1 ty g _ _ (fun j hj => hth1 _ (by omega)) (fun j _ => hfz1 _)
  have hm1 : i + (links.length - (i + 1)) = links.length - 1 := by omega
  have hcl2 : ∀ ty, (Builtin.clear_ #[77] ty #[.slice (some ⟨g, (i + (links.length - (i + 1))) * 4, none⟩) (links.length - (i + (links.length - (i + 1)))) (cp - (i + (links.length - (i + 1))))]).run Tryz.prog W1 = .ok (.tuple #[]) (W1.setCells g ((links.length - 1) * 4) [.bool false, .int .i64 0, .int .i64 0, .int .i64 0]) :=
    fun ty => by rw [hm1, show links.length - (links.length - 1) = 1 by omega]; exact hcl ty
  have HM1 := hide' hm1
  have HEND : Hid (RowAt (W1.setCells g ((links.length - 1) * 4) [.bool false, .int .i64 0, .int .i64 0, .int .i64 0]) (.slice (some ⟨g, 0, none⟩) (links.length - 1) cp) (links.length - 1) 4 ((links.eraseIdx i).flatMap LinkM.cells) ∧ Only g w (W1.setCells g ((links.length - 1) * 4) [.bool false, .int .i64 0, .int .i64 0, .int .i64 0])) := by
    refine ⟨⟨?_, _, _, rfl, fun j u hj => ⟨g, 0, rfl, ?_⟩⟩, ?_⟩
    · rw [links_flat_len, List.length_eraseIdx, if_pos hi]
    · have hjl : j < (links.length - 1) * 4 := by
        have h1 := (List.getElem?_eq_some_iff.1 hj).1
        rwa [links_flat_len, List.length_eraseIdx, if_pos hi] at h1
      rw [Nat.zero_add, World.cell?_setCells_out g _ _ W1 ⟨g, j, none⟩ (fun _ _ => .inl hjl), hW1]
      rw [List.eraseIdx_eq_take_drop_succ, List.flatMap_append, ← hnews] at hj
      have htl2 : ((links.take i).flatMap LinkM.cells).length = i * 4 := by rw [links_flat_len, List.length_take]; omega
      by_cases h : j < i * 4
      · rw [List.getElem?_append_left (by omega)] at hj
        rw [World.cell?_setCells_out g news (0 + i * 4) w.drew ⟨g, j, none⟩ (fun _ _ => .inl (by show j < _; omega))]
        refine hcell j u ?_
        rw [← List.take_append_drop i links, List.flatMap_append, List.getElem?_append_left (by rw [htl2]; exact h)]
        exact hj
      · rw [List.getElem?_append_right (by omega), htl2] at hj
        have h2 := (List.getElem?_eq_some_iff.1 hj).1
        have h3 := World.cell?_setCells_in g news (0 + i * 4) w.drew (fun t ht => (s3.out t ht).1) (j - i * 4) h2
        rw [show 0 + i * 4 + (j - i * 4) = j by omega] at h3
        rw [h3]
        exact (List.getElem?_eq_getElem h2).symm.trans hj
    · rw [hW1]
      exact only_cells _ _ (only_cells _ _ ⟨rfl, rfl, rfl, rfl, fun _ _ => rfl⟩)
  have hW : Hid (W1 = w.drew.setCells g (0 + i * 4) news) := hW1
  have hic : i ≤ cp := by omega
  have hjc : i + 1 ≤ cp := by omega
  have hne : ((i : Int) == (i : Int) + 1) = false := beq_eq_false_iff_ne.2 (by omega)
  have hb1 : (0 : Int) ≤ (i : Int) + 1 := by omega
  have hb2 : (i : Int) + 1 ≤ (links.length : Int) := by omega
  clear hW1 hth1 hfz1 hthere hcell hnc hsplit htl hnl hnews hfl hr hfz hcl hm1
  go_enter Tryz.func68, Tryz.ntmps68
  go_wp2_with fail
  go_region_law (refine step_append_room rfl (.tmp 22) (.tmp 25) 77 rfl 117 i0 4 Tryz.underlying77 hi0 hzz1 g 0 i cp (by simp [Act.eval, Act.put]) A (links.length - (i + 1)) (cp - (i + 1)) news (by simp [Act.eval, Act.put]) s1.out hsrc.out s2.out (by omega) s3.out ?_; rw [← hW.out])
  go_wp2
  go_ret
  refine ⟨?_, HEND.out.1, HEND.out.2⟩
  show Ending.returned (.slice (some ⟨g, 0, none⟩) (i + (links.length - (i + 1))) cp) = _
  rw [HM1.out]
end Go.Proofs.YtkcldnnopmagjabGreatDoor.Bar

/- The program's bridges. -/
namespace Go.Proofs.YtkcldnnopmagjabGreatDoor.Bar
open Go.RowKit Go.Shelf Doc

/-- The grid's box. -/
structure GBx (w W : World) (g : Array Value) : Prop where
  bel : Below w.heap.size w W
  box : W.heap[w.heap.size]? = some (.cells g 80 (0, 0))
theorem GBx.later {w W W' : World} {g : Array Value} (h : GBx w W g) (hb : Below W.heap.size W W') : GBx w W' g :=
  ⟨h.bel.trans (hb.mono h.bel.size), (hb.block _ (Array.getElem?_eq_some_iff.1 h.box).1).trans h.box⟩
theorem GBx.grown {w W W' : World} {g : Array Value} (h : GBx w W g) {row : Option Nat} (hg : W.grownBy W' row) (hr : ∀ k, row = some k → w.heap.size < k) : GBx w W' g :=
  ⟨h.bel.grown hg h.bel.size (fun k e => Nat.le_of_lt (hr k e)), (hg.block _ (Array.getElem?_eq_some_iff.1 h.box).1 (fun e => absurd (hr _ e.symm) (Nat.lt_irrefl _))).trans h.box⟩
theorem GBx.cells {w W : World} {c0 c1 : Value} (h : GBx w W #[c0, c1]) : W.cell? ⟨w.heap.size, 0, none⟩ = some c0 ∧ W.cell? ⟨w.heap.size, 1, none⟩ = some c1 := by
  refine ⟨?_, ?_⟩ <;> (simp only [World.cell?, h.box]; rfl)
theorem own_below {W W' : World} {B e sz m : Nat} {v : Value} {xs : List Value} (h : W.ownsRow B e sz v m xs) (hb : Below W.heap.size W W') : W'.ownsRow B e sz v m xs := own_other h (fun k hk => hb.block k (by
  rcases h.2 with ⟨rfl, _⟩ | ⟨g, cp, cur, rfl, _, h5, _⟩
  · cases hk
  · cases hk; exact (Array.getElem?_eq_some_iff.1 h5).1))
/-- A row of one's own that is not empty: where it lies. -/
theorem own_some {w : World} {B e sz m : Nat} {v : Value} {xs : List Value} (h : w.ownsRow B e sz v m xs) (hm : 0 < m) : ∃ g cp, v = .slice (some ⟨g, 0, none⟩) m cp ∧ B ≤ g ∧ m ≤ cp ∧ g < w.heap.size ∧ ∀ j, w.frozen? ⟨g, j, none⟩ = false := by
  rcases h.2 with ⟨_, e2⟩ | ⟨g, cp, cur, e1, h4, h5, h6, _⟩
  · omega
  · exact ⟨g, cp, e1, h4, h6, (Array.getElem?_eq_some_iff.1 h5).1, fun j => by simp [World.frozen?, h5]⟩
theorem ends_less {n : Nat} {links : List LinkM} (he : Ends n links) (k : Nat) : Ends n (links.eraseIdx k) := fun l hl => he l (List.mem_of_mem_eraseIdx hl)
theorem ints_snoc (l : List Int) (x : Int) : ints (l ++ [x]) = ints l ++ [.int .i64 x] := by simp [ints]

/-- The grid without one link: where it lies. -/
structure RestAt (X W : World) (P6 g cp n m : Nat) (rest : List LinkM) : Prop where
  bel : Below X.heap.size X W
  box : W.heap[P6]? = some (.cells #[.int .i64 n, .slice (some ⟨g, 0, none⟩) m cp] 80 (0, 0))
  row : RowAt W (.slice (some ⟨g, 0, none⟩) m cp) m 4 (rest.flatMap LinkM.cells)
theorem RestAt.make {X Y : World} {P6 g cp n m : Nat} {rest : List LinkM} (hb : Below X.heap.size X Y) (hP : Y.heap[P6]? = some (.cells #[.int .i64 0, .slice none 0 0] 80 (0, 0))) (hxp : X.heap.size ≤ P6) (hne : g ≠ P6) (hr : RowAt Y (.slice (some ⟨g, 0, none⟩) m cp) m 4 (rest.flatMap LinkM.cells)) :
    RestAt X ((Y.setCell ⟨P6, 0, none⟩ (.int .i64 n)).setCell ⟨P6, 1, none⟩ (.slice (some ⟨g, 0, none⟩) m cp)) P6 g cp n m rest := by
  refine ⟨(hb.setCell (p := ⟨P6, 0, none⟩) hxp _).setCell (p := ⟨P6, 1, none⟩) hxp _, ?_, ?_⟩
  · rw [set_any (set_any hP 0 _) 1 _]; rfl
  · obtain ⟨h1, a, c, e, hc⟩ := hr
    cases e
    refine ⟨h1, _, _, rfl, fun j u hj => ?_⟩
    obtain ⟨b, off, e1, h2⟩ := hc j u hj
    cases e1
    refine ⟨g, 0, rfl, ?_⟩
    rw [World.cell?_of_block (Below.heap_setCell _ _ _ _ hne), World.cell?_of_block (Below.heap_setCell _ _ _ _ hne)]
    exact h2
theorem box_cells {Y : World} {P6 : Nat} {x y : Value} (h : Y.heap[P6]? = some (.cells #[x, y] 80 (0, 0))) : Y.cell? ⟨P6, 0, none⟩ = some x ∧ Y.cell? ⟨P6, 1, none⟩ = some y ∧ Y.frozen? ⟨P6, 0, none⟩ = false ∧ Y.frozen? ⟨P6, 1, none⟩ = false := by
  refine ⟨?_, ?_, by simp [World.frozen?, h], by simp [World.frozen?, h]⟩ <;> (simp only [World.cell?, h]; rfl)
theorem wpAnyT_two {P : Program} {md : Region.Mode} {ops : Array Oper} {Q : Exit → Act → World → Prop} {S : World → Prop} {tl : Nat} {i j : Nat} {o o2 : Oper} {fuel : Nat} {listed li lj : Array Bool} {a : Act} {w : World} (hr : Region.ready md ops listed = [i, j]) (ho : ops[i]? = some o) (ho2 : ops[j]? = some o2) (hl : listed.setIfInBounds i true = li) (hl2 : listed.setIfInBounds j true = lj)
    (h : ∀ K' : Act → World → Prop, Hid (∀ a w, (i ≠ tl → S w) → wpAnyT P md ops Q S tl fuel li a w → K' a w) → if Region.wanted o (yielded ops a.tmps) = true then Oper.wp P o a w K' Q else K' (a.put o.dst undef) w)
    (h2 : ∀ K' : Act → World → Prop, Hid (∀ a w, (j ≠ tl → S w) → wpAnyT P md ops Q S tl fuel lj a w → K' a w) → if Region.wanted o2 (yielded ops a.tmps) = true then Oper.wp P o2 a w K' Q else K' (a.put o2.dst undef) w) :
    wpAnyT P md ops Q S tl (fuel + 1) listed a w := by
  subst hl hl2
  refine ⟨fun h0 => (by rw [hr] at h0; cases h0), ?_⟩
  rw [hr]
  intro m hm
  simp at hm
  rcases hm with hm | hm
  · subst hm
    exact wpOp_step ho (fun K' hK => h K' (fun a w hS hW => hK a w ⟨hS, hW⟩))
  · subst hm
    exact wpOp_step ho2 (fun K' hK => h2 K' (fun a w hS hW => hK a w ⟨hS, hW⟩))

set_option maxRecDepth 100000 in
set_option maxHeartbeats 4000000 in
theorem bridges_any (n : Nat) (hn : n ≤ 1000) (links : List LinkM) (hlen : links.length ≤ 1000) (hends : Ends n links) (a : Option Addr) (cap : Nat) (w : World)
    (hr : RowAt w (.slice a links.length cap) links.length 4 (links.flatMap LinkM.cells)) :
    Calls Tryz.prog 45 #[.agg #[.int .i64 n, .slice a links.length cap]] w fun e w' => ∃ v, e = .returned v ∧ w'.ownsRow (w.heap.size + 1) 3 1 v (bridgesL n links).length (ints (bridgesL n links)) ∧ Below w.heap.size w w' := by
  obtain ⟨i0, hi0, hzz0, hzz1, hzz2⟩ := info_parts Doc.Tryz.info3
  have HBX : Hid (GBx w (w.alloc (.cells #[.int .i64 n, .slice a links.length cap] 80)) #[.int .i64 n, .slice a links.length cap]) := ⟨(Below.refl _ w).alloc (Nat.le_refl _) _, World.alloc_heap_new w _⟩
  have HR := hide' hr
  have HE := hide' hends
  clear hr hends
  go_enter Tryz.func45, Tryz.ntmps45
  go_wp2_with fail
  go_loopw [3, 10] (fun l i wr => ∃ (k : Nat) (lv : Value), i = .int .i64 k ∧ l = lv ∧ k ≤ links.length ∧ Hid (wr.ownsRow (w.heap.size + 1) 3 1 lv (bridgesS n links k).length (ints (bridgesS n links k))) ∧ Hid (GBx w wr #[.int .i64 n, .slice a links.length cap])) (fun _ i _ => links.length - (intOf i).toNat)
  case atStart => exact ⟨0, _, rfl, rfl, Nat.zero_le _, ⟨rfl, .inl ⟨rfl, rfl⟩⟩, HBX⟩
  case round =>
    clear HBX
    obtain ⟨k, l, rfl, hl, hk, HOW, HBX⟩ := hrel
    have hl' := hl.symm
    clear hl
    subst hl'
    by_cases hlt : k < links.length
    · obtain ⟨bt, ot, ea, hct⟩ := link_elem HR.out k hlt
      subst ea
      obtain ⟨x, hx⟩ : ∃ x, x = links[k] := ⟨_, rfl⟩
      have HQ : Hid (links[k]? = some x) := by show _ = _; rw [List.getElem?_eq_getElem hlt, hx]
      rw [← hx] at hct
      have hxe := HE.out x (by rw [hx]; exact List.getElem_mem hlt)
      have up : ∀ (j : Nat) (u : Value), w.cell? ⟨bt, j, none⟩ = some u → wr.cell? ⟨bt, j, none⟩ = some u := fun j u h => (HBX.out.bel.cell (World.block_lt_of_cell? w _ h)).trans h
      have d0 := up _ _ (hct 0 _ rfl)
      have d1 := up _ _ (hct 1 _ rfl)
      have d2 := up _ _ (hct 2 _ rfl)
      have d3 := up _ _ (hct 3 _ rfl)
      rw [Nat.add_zero] at d0
      obtain ⟨pN, hpN⟩ := Int.eq_ofNat_of_zero_le hxe.1
      obtain ⟨qN, hqN⟩ := Int.eq_ofNat_of_zero_le hxe.2.2.1
      rw [hpN] at d2
      rw [hqN] at d3
      have hpn : pN < n := by omega
      have hqn : qN < n := by omega
      obtain ⟨tie, htie⟩ : ∃ t, t = x.tie := ⟨_, rfl⟩
      obtain ⟨no, hno⟩ : ∃ t, t = x.no := ⟨_, rfl⟩
      rw [← htie] at d0
      rw [← hno] at d1
      have HNX : Hid (bridgesS n links (k + 1) = if tie = false ∧ (farL n (links.eraseIdx k) (pN : Int)).getD qN 0 = -1 then bridgesS n links k ++ [no] else bridgesS n links k) := by
        show _ = _
        rw [bridgesS, HQ.out]
        show (if x.tie = false ∧ (farL n (links.eraseIdx k) x.p).getD x.q.toNat 0 = -1 then bridgesS n links k ++ [x.no] else bridgesS n links k) = _
        rw [hpN, hqN, ← htie, ← hno, Int.toNat_natCast]
      have hbl := bridgesS_len n links k
      clear hct up hx hxe hpN hqN htie hno
      obtain ⟨X, hX⟩ : ∃ X, X = wr.alloc (.cells #[.bool tie, .int .i64 no, .int .i64 (pN : Int), .int .i64 (qN : Int)] 117) := ⟨_, rfl⟩
      have HBX1 : Hid (GBx w X #[.int .i64 n, .slice (some ⟨bt, ot, none⟩) links.length cap]) := by rw [hX]; exact HBX.out.later ((Below.refl _ wr).alloc (Nat.le_refl _) _)
      have HLK : Hid (X.heap[wr.heap.size]? = some (.cells #[.bool tie, .int .i64 no, .int .i64 (pN : Int), .int .i64 (qN : Int)] 117 (0, 0))) := by rw [hX]; exact World.alloc_heap_new wr _
      have HXB : Hid (Below wr.heap.size wr X) := by rw [hX]; exact (Below.refl _ wr).alloc (Nat.le_refl _) _
      have HX := hide' hX
      have hw1 : IntKind.i64.wrap ((k : Int) + 1) = (k : Int) + 1 := Go.IntWalk.i64_in _ (by omega)
      obtain ⟨b0, b1⟩ := HBX1.out.cells
      have HBC : Hid (Below X.heap.size X X.drew) := (Below.refl _ X).drew
      clear hX
      go_upto_region 5 with fail
      rw [← HX.out]
      go_cut [3, 4, 5, 6, 10] from 10 to 48 (fun l4 i4 p5 p6 ix wc => ∃ (g cp P6 : Nat), l4 = l ∧ i4 = .int .i64 (k : Int) ∧ p5 = .pointer (some ⟨wr.heap.size, 0, none⟩) ∧ p6 = .pointer (some ⟨P6, 0, none⟩) ∧ ix = .int .i64 (k : Int) ∧ Hid (RestAt X wc P6 g cp n (links.length - 1) (links.eraseIdx k)))
      case first =>
        go_wp2_with fail
        refine wp_region_tail (fun W => W.cell? ⟨w.heap.size, 0, none⟩ = some (.int .i64 n) ∧ W.cell? ⟨w.heap.size, 1, none⟩ = some (.slice (some ⟨bt, ot, none⟩) links.length cap)) 11 (by kernel_rfl) ?_
        refine wpAnyD_takeAt 0 (some 15) (v := ?_) rfl (by kernel_rfl) (by kernel_rfl) (by kernel_rfl) (by kernel_rfl) (by kernel_rfl) (fun _ _ _ h => h) (by exact ⟨b0, b1⟩) (fun o hop => ?_) ?_
        rotate_left
        · injection hop with hop
          subst hop
          refine ⟨rfl, fun W hW => ?_⟩
          obtain ⟨s0, s1⟩ := hW
          go_simp
          first
          | rfl
          | rw [if_neg (by omega)]
        try simp only [Act.put, List.setIfInBounds_toArray, List.set_cons_zero, List.set_cons_succ]
        refine wpAnyD_takeAt 1 (some 16) (v := ?_) rfl (by kernel_rfl) (by kernel_rfl) (by kernel_rfl) (by kernel_rfl) (by kernel_rfl) (fun _ _ _ h => h) (by exact ⟨b0, b1⟩) (fun o hop => ?_) ?_
        rotate_left
        · injection hop with hop
          subst hop
          refine ⟨rfl, fun W hW => ?_⟩
          obtain ⟨s0, s1⟩ := hW
          go_simp
          first
          | rfl
          | rw [if_neg (by omega)]
        try simp only [Act.put, List.setIfInBounds_toArray, List.set_cons_zero, List.set_cons_succ]
        refine wpAnyD_takeAt 2 (some 17) (v := ?_) rfl (by kernel_rfl) (by kernel_rfl) (by kernel_rfl) (by kernel_rfl) (by kernel_rfl) (fun _ _ _ h => h) (by exact ⟨b0, b1⟩) (fun o hop => ?_) ?_
        rotate_left
        · injection hop with hop
          subst hop
          refine ⟨rfl, fun W hW => ?_⟩
          obtain ⟨s0, s1⟩ := hW
          go_simp
          first
          | rfl
          | rw [if_neg (by omega)]
        try simp only [Act.put, List.setIfInBounds_toArray, List.set_cons_zero, List.set_cons_succ]
        refine wpAnyD_takeAt 3 (some 18) (v := ?_) rfl (by kernel_rfl) (by kernel_rfl) (by kernel_rfl) (by kernel_rfl) (by kernel_rfl) (fun _ _ _ h => h) (by exact ⟨b0, b1⟩) (fun o hop => ?_) ?_
        rotate_left
        · injection hop with hop
          subst hop
          refine ⟨rfl, fun W hW => ?_⟩
          obtain ⟨s0, s1⟩ := hW
          go_simp
          first
          | rfl
          | rw [if_neg (by omega)]
        try simp only [Act.put, List.setIfInBounds_toArray, List.set_cons_zero, List.set_cons_succ]
        refine wpAnyD_takeAt 5 (some 20) (v := ?_) rfl (by kernel_rfl) (by kernel_rfl) (by kernel_rfl) (by kernel_rfl) (by kernel_rfl) (fun _ _ _ h => h) (by exact ⟨b0, b1⟩) (fun o hop => ?_) ?_
        rotate_left
        · injection hop with hop
          subst hop
          refine ⟨rfl, fun W hW => ?_⟩
          obtain ⟨s0, s1⟩ := hW
          go_simp
          first
          | rfl
          | rw [if_neg (by omega)]
        try simp only [Act.put, List.setIfInBounds_toArray, List.set_cons_zero, List.set_cons_succ]
        refine wpAnyD_takeAt 6 (some 21) (v := ?_) rfl (by kernel_rfl) (by kernel_rfl) (by kernel_rfl) (by kernel_rfl) (by kernel_rfl) (fun _ _ _ h => h) (by exact ⟨b0, b1⟩) (fun o hop => ?_) ?_
        rotate_left
        · injection hop with hop
          subst hop
          refine ⟨rfl, fun W hW => ?_⟩
          obtain ⟨s0, s1⟩ := hW
          go_simp
          first
          | rfl
          | rw [if_neg (by omega)]
        try simp only [Act.put, List.setIfInBounds_toArray, List.set_cons_zero, List.set_cons_succ]
        refine wpAnyD_takeAt 7 (some 22) (v := ?_) rfl (by kernel_rfl) (by kernel_rfl) (by kernel_rfl) (by kernel_rfl) (by kernel_rfl) (fun _ _ _ h => h) (by exact ⟨b0, b1⟩) (fun o hop => ?_) ?_
        rotate_left
        · injection hop with hop
          subst hop
          refine ⟨rfl, fun W hW => ?_⟩
          obtain ⟨s0, s1⟩ := hW
          go_simp
          first
          | rfl
          | rw [if_neg (by omega)]
        try simp only [Act.put, List.setIfInBounds_toArray, List.set_cons_zero, List.set_cons_succ]
        clear b0 b1
        refine wpAnyT_two (i := 4) (j := 10) (by kernel_rfl) rfl rfl rfl rfl (fun K' hK => ?_) (fun K' hK => ?_)
        · have HBC0 := HBC
          go_simp
          go_at_call 69
          refine (Clone_any links bt ot cap X.drew hlen (RowAt.below HR.out (HBX1.out.bel.trans (HBC.out.mono HBX1.out.bel.size)) (Nat.le_refl _))).mono ?_
          rintro e w3 ⟨v3, rfl, hown3, hb3⟩
          obtain ⟨g, cp, rfl, hg0, hcp, hg1, hfz⟩ := own_some hown3 (by omega)
          have HR3 := hide' (rowAt_of_own hown3)
          have HBC3 : Hid (Below X.heap.size X w3) := HBC.out.trans (hb3.mono HBC.out.size)
          have HG0 : Hid (X.drew.heap.size ≤ g) := hg0
          have HG1 : Hid (g < w3.heap.size) := hg1
          have HFZ := hide' hfz
          have HBXc := hide' (HBX1.out.later HBC3.out)
          clear hown3 hb3 hg0 hg1 hfz
          clear HBC
          refine hK.out _ _ (fun _ => by exact HBXc.out.cells) ?_
          clear hK K'
          have HXG : Hid (X.heap.size ≤ g) := Nat.le_trans HBC0.out.size HG0.out
          refine wpAnyT_two (i := 8) (j := 10) (by kernel_rfl) rfl rfl rfl rfl (fun K' hK => ?_) (fun K' hK => ?_)
          · go_simp
            go_at_call 68
            refine (Delete_any links k g cp w3 hlt hlen hcp HR3.out HFZ.out).mono ?_
            rintro e w4 ⟨rfl, hrow4, hb4⟩
            have HBC4 : Hid (Below X.heap.size X w4) := HBC3.out.trans ((hb4.below (n := X.heap.size) HXG.out))
            have HR4 := hide' hrow4
            have HBXc := hide' (HBX1.out.later HBC4.out)
            have HG4 : Hid (g < w4.heap.size) := by have := hb4.size; have := HG1.out; show _ < _; omega
            clear hrow4 hb4 HR3 HFZ HBC3
            refine hK.out _ _ (fun _ => by exact HBXc.out.cells) ?_
            clear hK K'
            refine wpAnyT_two (i := 9) (j := 10) (by kernel_rfl) rfl rfl rfl rfl (fun K' hK => ?_) (fun K' hK => ?_)
            · go_simp
              refine hK.out _ _ (fun _ => by exact HBXc.out.cells) ?_
              clear hK K'
              refine wpAnyT_one (i := 10) (by kernel_rfl) rfl rfl (fun K' hK => ?_)
              go_simp
              obtain ⟨Y, hY⟩ : ∃ Y, Y = w4.alloc (.cells #[.int .i64 0, .slice none 0 0] 80) := ⟨_, rfl⟩
              obtain ⟨P6, hP6⟩ : ∃ P, P = w4.heap.size := ⟨_, rfl⟩
              rw [← hY, ← hP6]
              have HPY : Hid (Y.heap[P6]? = some (.cells #[.int .i64 0, .slice none 0 0] 80 (0, 0))) := by rw [hY, hP6]; exact World.alloc_heap_new w4 _
              have HBCY : Hid (Below X.heap.size X Y) := by rw [hY]; exact HBC4.out.alloc HBC4.out.size _
              have HBXc := hide' (HBX1.out.later HBCY.out)
              have HXP : Hid (X.heap.size ≤ P6) := by rw [hP6]; exact HBC4.out.size
              have HNE : Hid (g ≠ P6) := by have := HG4.out; show _ ≠ _; omega
              have HR4' := hide' (RowAt.below HR4.out (show Below w4.heap.size w4 Y by rw [hY]; exact (Below.refl _ w4).alloc (Nat.le_refl _) _) (Nat.le_refl _))
              refine hK.out _ _ (fun _ => by exact HBXc.out.cells) ?_
              clear hK K'
              clear hY hP6
              refine wpAnyT_one (i := 11) (by kernel_rfl) rfl rfl (fun K' hK => ?_)
              obtain ⟨r0, r1, rf0, rf1⟩ := box_cells HPY.out
              have HRA := hide' (RestAt.make (n := n) HBCY.out HPY.out HXP.out HNE.out HR4'.out)
              go_simp
              refine hK.out _ _ (fun h => absurd rfl h) ?_
              clear hK K'
              refine wpAnyT_done (by kernel_rfl) ?_ _
              clear r0 r1 rf0 rf1
              go_wp2_with fail
              go_meet
              case rel => exact ⟨g, cp, P6, rfl, rfl, rfl, rfl, rfl, HRA⟩
            · go_simp
              obtain ⟨Y, hY⟩ : ∃ Y, Y = w4.alloc (.cells #[.int .i64 0, .slice none 0 0] 80) := ⟨_, rfl⟩
              obtain ⟨P6, hP6⟩ : ∃ P, P = w4.heap.size := ⟨_, rfl⟩
              rw [← hY, ← hP6]
              have HPY : Hid (Y.heap[P6]? = some (.cells #[.int .i64 0, .slice none 0 0] 80 (0, 0))) := by rw [hY, hP6]; exact World.alloc_heap_new w4 _
              have HBCY : Hid (Below X.heap.size X Y) := by rw [hY]; exact HBC4.out.alloc HBC4.out.size _
              have HBXc := hide' (HBX1.out.later HBCY.out)
              have HXP : Hid (X.heap.size ≤ P6) := by rw [hP6]; exact HBC4.out.size
              have HNE : Hid (g ≠ P6) := by have := HG4.out; show _ ≠ _; omega
              have HR4' := hide' (RowAt.below HR4.out (show Below w4.heap.size w4 Y by rw [hY]; exact (Below.refl _ w4).alloc (Nat.le_refl _) _) (Nat.le_refl _))
              refine hK.out _ _ (fun _ => by exact HBXc.out.cells) ?_
              clear hK K'
              clear hY hP6
              refine wpAnyT_one (i := 9) (by kernel_rfl) rfl rfl (fun K' hK => ?_)
              go_simp
              refine hK.out _ _ (fun _ => by exact HBXc.out.cells) ?_
              clear hK K'
              refine wpAnyT_one (i := 11) (by kernel_rfl) rfl rfl (fun K' hK => ?_)
              obtain ⟨r0, r1, rf0, rf1⟩ := box_cells HPY.out
              have HRA := hide' (RestAt.make (n := n) HBCY.out HPY.out HXP.out HNE.out HR4'.out)
              go_simp
              refine hK.out _ _ (fun h => absurd rfl h) ?_
              clear hK K'
              refine wpAnyT_done (by kernel_rfl) ?_ _
              clear r0 r1 rf0 rf1
              go_wp2_with fail
              go_meet
              case rel => exact ⟨g, cp, P6, rfl, rfl, rfl, rfl, rfl, HRA⟩
          · go_simp
            obtain ⟨Y, hY⟩ : ∃ Y, Y = w3.alloc (.cells #[.int .i64 0, .slice none 0 0] 80) := ⟨_, rfl⟩
            obtain ⟨P6, hP6⟩ : ∃ P, P = w3.heap.size := ⟨_, rfl⟩
            rw [← hY, ← hP6]
            have HPY : Hid (Y.heap[P6]? = some (.cells #[.int .i64 0, .slice none 0 0] 80 (0, 0))) := by rw [hY, hP6]; exact World.alloc_heap_new w3 _
            have HBCY : Hid (Below X.heap.size X Y) := by rw [hY]; exact HBC3.out.alloc HBC3.out.size _
            have HBXc := hide' (HBX1.out.later HBCY.out)
            have HXP : Hid (X.heap.size ≤ P6) := by rw [hP6]; exact HBC3.out.size
            have HNE : Hid (g ≠ P6) := by have := HG1.out; show _ ≠ _; omega
            have HR3' := hide' (RowAt.below HR3.out (show Below w3.heap.size w3 Y by rw [hY]; exact (Below.refl _ w3).alloc (Nat.le_refl _) _) (Nat.le_refl _))
            have HFZ' : Hid (∀ j, Y.frozen? ⟨g, j, none⟩ = false) := fun j => by
              have h9 : Y.heap[g]? = w3.heap[g]? := by rw [hY]; exact Below.heap_alloc _ _ _ HG1.out
              have h8 := HFZ.out j
              simp only [World.frozen?, h9] at h8 ⊢
              exact h8
            refine hK.out _ _ (fun _ => by exact HBXc.out.cells) ?_
            clear hK K'
            clear HBXc HBC3 HR3 HFZ
            have HBC3 := HBCY
            have HR3 := HR3'
            have HFZ := HFZ'
            have HP3 := HPY
            clear hY hP6 HPY HBCY HR3' HFZ'
            refine wpAnyT_one (i := 8) (by kernel_rfl) rfl rfl (fun K' hK => ?_)
            go_simp
            go_at_call 68
            refine (Delete_any links k g cp Y hlt hlen hcp HR3.out HFZ.out).mono ?_
            rintro e w4 ⟨rfl, hrow4, hb4⟩
            have HBC4 : Hid (Below X.heap.size X w4) := HBC3.out.trans ((hb4.below (n := X.heap.size) HXG.out))
            have HR4 := hide' hrow4
            have HBXc := hide' (HBX1.out.later HBC4.out)
            have HP4 : Hid (w4.heap[P6]? = some (.cells #[.int .i64 0, .slice none 0 0] 80 (0, 0))) := (hb4.block P6 (fun e => HNE.out e.symm)).trans HP3.out
            clear HP3
            clear hrow4 hb4 HR3 HFZ HBC3
            refine hK.out _ _ (fun _ => by exact HBXc.out.cells) ?_
            clear hK K'
            refine wpAnyT_one (i := 9) (by kernel_rfl) rfl rfl (fun K' hK => ?_)
            go_simp
            refine hK.out _ _ (fun _ => by exact HBXc.out.cells) ?_
            clear hK K'
            refine wpAnyT_one (i := 11) (by kernel_rfl) rfl rfl (fun K' hK => ?_)
            obtain ⟨r0, r1, rf0, rf1⟩ := box_cells HP4.out
            have HRA := hide' (RestAt.make (n := n) HBC4.out HP4.out HXP.out HNE.out HR4.out)
            go_simp
            refine hK.out _ _ (fun h => absurd rfl h) ?_
            clear hK K'
            refine wpAnyT_done (by kernel_rfl) ?_ _
            clear r0 r1 rf0 rf1
            go_wp2_with fail
            go_meet
            case rel => exact ⟨g, cp, P6, rfl, rfl, rfl, rfl, rfl, HRA⟩
        · go_simp
          obtain ⟨Y, hY⟩ : ∃ Y, Y = (X.alloc (.cells #[.int .i64 0, .slice none 0 0] 80)).drew := ⟨_, rfl⟩
          obtain ⟨P6, hP6⟩ : ∃ P, P = X.heap.size := ⟨_, rfl⟩
          rw [← hY, ← hP6]
          have HPY : Hid (Y.heap[P6]? = some (.cells #[.int .i64 0, .slice none 0 0] 80 (0, 0))) := by rw [hY, hP6]; exact World.alloc_heap_new X _
          have HBCY : Hid (Below X.heap.size X Y) := by rw [hY]; exact ((Below.refl _ X).alloc (Nat.le_refl _) _).drew
          have HBXc := hide' (HBX1.out.later HBCY.out)
          have HXP : Hid (X.heap.size ≤ P6) := by rw [hP6]; exact Nat.le_refl _
          refine hK.out _ _ (fun _ => by exact HBXc.out.cells) ?_
          clear hK K'
          have HBC0 := HBCY
          clear HBC HBXc
          have HBC := HBCY
          have HP := HPY
          clear hY hP6 HPY HBCY
          refine wpAnyT_one (i := 4) (by kernel_rfl) rfl rfl (fun K' hK => ?_)
          go_simp
          go_at_call 69
          refine (Clone_any links bt ot cap Y hlen (RowAt.below HR.out (HBX1.out.bel.trans (HBC.out.mono HBX1.out.bel.size)) (Nat.le_refl _))).mono ?_
          rintro e w3 ⟨v3, rfl, hown3, hb3⟩
          obtain ⟨g, cp, rfl, hg0, hcp, hg1, hfz⟩ := own_some hown3 (by omega)
          have HR3 := hide' (rowAt_of_own hown3)
          have HBC3 : Hid (Below X.heap.size X w3) := HBC.out.trans (hb3.mono HBC.out.size)
          have HG0 : Hid (Y.heap.size ≤ g) := hg0
          have HG1 : Hid (g < w3.heap.size) := hg1
          have HFZ := hide' hfz
          have HBXc := hide' (HBX1.out.later HBC3.out)
          have HP3 : Hid (w3.heap[P6]? = some (.cells #[.int .i64 0, .slice none 0 0] 80 (0, 0))) := (hb3.block P6 (Array.getElem?_eq_some_iff.1 HP.out).1).trans HP.out
          have HNE : Hid (g ≠ P6) := by have := (Array.getElem?_eq_some_iff.1 HP.out).1; show _ ≠ _; omega
          clear HP
          clear hown3 hb3 hg0 hg1 hfz
          clear HBC
          refine hK.out _ _ (fun _ => by exact HBXc.out.cells) ?_
          clear hK K'
          have HXG : Hid (X.heap.size ≤ g) := Nat.le_trans HBC0.out.size HG0.out
          refine wpAnyT_one (i := 8) (by kernel_rfl) rfl rfl (fun K' hK => ?_)
          go_simp
          go_at_call 68
          refine (Delete_any links k g cp w3 hlt hlen hcp HR3.out HFZ.out).mono ?_
          rintro e w4 ⟨rfl, hrow4, hb4⟩
          have HBC4 : Hid (Below X.heap.size X w4) := HBC3.out.trans ((hb4.below (n := X.heap.size) HXG.out))
          have HR4 := hide' hrow4
          have HBXc := hide' (HBX1.out.later HBC4.out)
          have HP4 : Hid (w4.heap[P6]? = some (.cells #[.int .i64 0, .slice none 0 0] 80 (0, 0))) := (hb4.block P6 (fun e => HNE.out e.symm)).trans HP3.out
          clear HP3
          clear hrow4 hb4 HR3 HFZ HBC3
          refine hK.out _ _ (fun _ => by exact HBXc.out.cells) ?_
          clear hK K'
          refine wpAnyT_one (i := 9) (by kernel_rfl) rfl rfl (fun K' hK => ?_)
          go_simp
          refine hK.out _ _ (fun _ => by exact HBXc.out.cells) ?_
          clear hK K'
          refine wpAnyT_one (i := 11) (by kernel_rfl) rfl rfl (fun K' hK => ?_)
          obtain ⟨r0, r1, rf0, rf1⟩ := box_cells HP4.out
          have HRA := hide' (RestAt.make (n := n) HBC4.out HP4.out HXP.out HNE.out HR4.out)
          go_simp
          refine hK.out _ _ (fun h => absurd rfl h) ?_
          clear hK K'
          refine wpAnyT_done (by kernel_rfl) ?_ _
          clear r0 r1 rf0 rf1
          go_wp2_with fail
          go_meet
          case rel => exact ⟨g, cp, P6, rfl, rfl, rfl, rfl, rfl, HRA⟩
      case rest =>
        obtain ⟨g, cp, P6, rfl, rfl, rfl, rfl, rfl, HRA⟩ := hcut
        have HWB : Hid (Below wr.heap.size wr wc) := HXB.out.trans (HRA.out.bel.mono HXB.out.size)
        have hbx : wc.heap[wr.heap.size]? = some (.cells #[.bool tie, .int .i64 no, .int .i64 (pN : Int), .int .i64 (qN : Int)] 117 (0, 0)) := (HRA.out.bel.block _ (Array.getElem?_eq_some_iff.1 HLK.out).1).trans HLK.out
        have q0 : wc.cell? ⟨wr.heap.size, 0, none⟩ = some (.bool tie) := by simp only [World.cell?, hbx]; rfl
        have q1 : wc.cell? ⟨wr.heap.size, 1, none⟩ = some (.int .i64 no) := by simp only [World.cell?, hbx]; rfl
        have q2 : wc.cell? ⟨wr.heap.size, 2, none⟩ = some (.int .i64 (pN : Int)) := by simp only [World.cell?, hbx]; rfl
        have q3 : wc.cell? ⟨wr.heap.size, 3, none⟩ = some (.int .i64 (qN : Int)) := by simp only [World.cell?, hbx]; rfl
        obtain ⟨t0, t1, tf0, tf1⟩ := box_cells HRA.out.box
        have HLX := hide' hbx
        clear hbx tf0 tf1 d0 d1 d2 d3 b0 b1 HBC
        cases tie with
        | true =>
          have HS2 : Hid (∀ W', Below wr.heap.size wr W' → W'.ownsRow (w.heap.size + 1) 3 1 u3 (bridgesS n links (k + 1)).length (ints (bridgesS n links (k + 1))) ∧ GBx w W' #[.int .i64 n, .slice (some ⟨bt, ot, none⟩) links.length cap]) := fun W' h => by
            rw [HNX.out, if_neg (fun h => by cases h.1)]
            exact ⟨own_below HOW.out h, HBX.out.later h⟩
          go_wp2_with fail
          go_quiet (fail)
          go_wp2
          have h9 := HS2.out _ (below_drewN HWB.out nq)
          exact ⟨⟨k + 1, u3, by go_num, rfl, by omega, h9.1, h9.2⟩, by simp [intOf]; omega⟩
        | false =>
          have hrl : (links.eraseIdx k).length = links.length - 1 := by rw [List.length_eraseIdx, if_pos hlt]
          have hfar := far_any n hn (links.eraseIdx k) (by rw [hrl]; omega) (ends_less HE.out k) (some ⟨g, 0, none⟩) cp (pN : Int) ⟨by omega, by omega⟩ wc.drew (by rw [hrl]; exact RowAt.below HRA.out.row (Below.refl _ wc).drew (Nat.le_refl _))
          rw [hrl] at hfar
          have hfl := farL_len (links := links.eraseIdx k) (b := (pN : Int)) (ends_less HE.out k) ⟨by omega, by omega⟩
          have HFAR := hide' hfar
          have HFL := hide' hfl
          clear hfar hfl hrl
          go_wp2_with fail
          refine wp_region_tail (fun W => W.cell? ⟨wr.heap.size, 0, none⟩ = some (.bool false) ∧ W.cell? ⟨wr.heap.size, 1, none⟩ = some (.int .i64 no) ∧ W.cell? ⟨wr.heap.size, 2, none⟩ = some (.int .i64 (pN : Int)) ∧ W.cell? ⟨wr.heap.size, 3, none⟩ = some (.int .i64 (qN : Int)) ∧ W.cell? ⟨P6, 0, none⟩ = some (.int .i64 n) ∧ W.cell? ⟨P6, 1, none⟩ = some (.slice (some ⟨g, 0, none⟩) (links.length - 1) cp)) 16 (by kernel_rfl) ?_
          refine wpAnyD_takeAt 0 (some 25) (v := ?_) rfl (by kernel_rfl) (by kernel_rfl) (by kernel_rfl) (by kernel_rfl) (by kernel_rfl) (fun _ _ _ h => h) (by exact ⟨q0, q1, q2, q3, t0, t1⟩) (fun o hop => ?_) ?_
          rotate_left
          · injection hop with hop
            subst hop
            refine ⟨rfl, fun W hW => ?_⟩
            obtain ⟨s0, s1, s2, s3, s4, s5⟩ := hW
            go_simp
            first
            | rfl
            | rw [if_neg (by omega)]
          try simp only [Act.put, List.setIfInBounds_toArray, List.set_cons_zero, List.set_cons_succ]
          refine wpAnyD_takeAt 1 (some 26) (v := ?_) rfl (by kernel_rfl) (by kernel_rfl) (by kernel_rfl) (by kernel_rfl) (by kernel_rfl) (fun _ _ _ h => h) (by exact ⟨q0, q1, q2, q3, t0, t1⟩) (fun o hop => ?_) ?_
          rotate_left
          · injection hop with hop
            subst hop
            refine ⟨rfl, fun W hW => ?_⟩
            obtain ⟨s0, s1, s2, s3, s4, s5⟩ := hW
            go_simp
            first
            | rfl
            | rw [if_neg (by omega)]
          try simp only [Act.put, List.setIfInBounds_toArray, List.set_cons_zero, List.set_cons_succ]
          refine wpAnyD_takeAt 2 (some 27) (v := ?_) rfl (by kernel_rfl) (by kernel_rfl) (by kernel_rfl) (by kernel_rfl) (by kernel_rfl) (fun _ _ _ h => h) (by exact ⟨q0, q1, q2, q3, t0, t1⟩) (fun o hop => ?_) ?_
          rotate_left
          · injection hop with hop
            subst hop
            refine ⟨rfl, fun W hW => ?_⟩
            obtain ⟨s0, s1, s2, s3, s4, s5⟩ := hW
            go_simp
            first
            | rfl
            | rw [if_neg (by omega)]
          try simp only [Act.put, List.setIfInBounds_toArray, List.set_cons_zero, List.set_cons_succ]
          refine wpAnyD_takeAt 3 (some 28) (v := ?_) rfl (by kernel_rfl) (by kernel_rfl) (by kernel_rfl) (by kernel_rfl) (by kernel_rfl) (fun _ _ _ h => h) (by exact ⟨q0, q1, q2, q3, t0, t1⟩) (fun o hop => ?_) ?_
          rotate_left
          · injection hop with hop
            subst hop
            refine ⟨rfl, fun W hW => ?_⟩
            obtain ⟨s0, s1, s2, s3, s4, s5⟩ := hW
            go_simp
            first
            | rfl
            | rw [if_neg (by omega)]
          try simp only [Act.put, List.setIfInBounds_toArray, List.set_cons_zero, List.set_cons_succ]
          refine wpAnyD_takeAt 4 (some 29) (v := ?_) rfl (by kernel_rfl) (by kernel_rfl) (by kernel_rfl) (by kernel_rfl) (by kernel_rfl) (fun _ _ _ h => h) (by exact ⟨q0, q1, q2, q3, t0, t1⟩) (fun o hop => ?_) ?_
          rotate_left
          · injection hop with hop
            subst hop
            refine ⟨rfl, fun W hW => ?_⟩
            obtain ⟨s0, s1, s2, s3, s4, s5⟩ := hW
            go_simp
            first
            | rfl
            | rw [if_neg (by omega)]
          try simp only [Act.put, List.setIfInBounds_toArray, List.set_cons_zero, List.set_cons_succ]
          refine wpAnyD_takeAt 5 (some 30) (v := ?_) rfl (by kernel_rfl) (by kernel_rfl) (by kernel_rfl) (by kernel_rfl) (by kernel_rfl) (fun _ _ _ h => h) (by exact ⟨q0, q1, q2, q3, t0, t1⟩) (fun o hop => ?_) ?_
          rotate_left
          · injection hop with hop
            subst hop
            refine ⟨rfl, fun W hW => ?_⟩
            obtain ⟨s0, s1, s2, s3, s4, s5⟩ := hW
            go_simp
            first
            | rfl
            | rw [if_neg (by omega)]
          try simp only [Act.put, List.setIfInBounds_toArray, List.set_cons_zero, List.set_cons_succ]
          refine wpAnyD_takeAt 6 (some 31) (v := ?_) rfl (by kernel_rfl) (by kernel_rfl) (by kernel_rfl) (by kernel_rfl) (by kernel_rfl) (fun _ _ _ h => h) (by exact ⟨q0, q1, q2, q3, t0, t1⟩) (fun o hop => ?_) ?_
          rotate_left
          · injection hop with hop
            subst hop
            refine ⟨rfl, fun W hW => ?_⟩
            obtain ⟨s0, s1, s2, s3, s4, s5⟩ := hW
            go_simp
            first
            | rfl
            | rw [if_neg (by omega)]
          try simp only [Act.put, List.setIfInBounds_toArray, List.set_cons_zero, List.set_cons_succ]
          refine wpAnyD_takeAt 7 (some 32) (v := ?_) rfl (by kernel_rfl) (by kernel_rfl) (by kernel_rfl) (by kernel_rfl) (by kernel_rfl) (fun _ _ _ h => h) (by exact ⟨q0, q1, q2, q3, t0, t1⟩) (fun o hop => ?_) ?_
          rotate_left
          · injection hop with hop
            subst hop
            refine ⟨rfl, fun W hW => ?_⟩
            obtain ⟨s0, s1, s2, s3, s4, s5⟩ := hW
            go_simp
            first
            | rfl
            | rw [if_neg (by omega)]
          try simp only [Act.put, List.setIfInBounds_toArray, List.set_cons_zero, List.set_cons_succ]
          refine wpAnyD_takeAt 8 (some 33) (v := ?_) rfl (by kernel_rfl) (by kernel_rfl) (by kernel_rfl) (by kernel_rfl) (by kernel_rfl) (fun _ _ _ h => h) (by exact ⟨q0, q1, q2, q3, t0, t1⟩) (fun o hop => ?_) ?_
          rotate_left
          · injection hop with hop
            subst hop
            refine ⟨rfl, fun W hW => ?_⟩
            obtain ⟨s0, s1, s2, s3, s4, s5⟩ := hW
            go_simp
            first
            | rfl
            | rw [if_neg (by omega)]
          try simp only [Act.put, List.setIfInBounds_toArray, List.set_cons_zero, List.set_cons_succ]
          refine wpAnyD_takeAt 10 (some 35) (v := ?_) rfl (by kernel_rfl) (by kernel_rfl) (by kernel_rfl) (by kernel_rfl) (by kernel_rfl) (fun _ _ _ h => h) (by exact ⟨q0, q1, q2, q3, t0, t1⟩) (fun o hop => ?_) ?_
          rotate_left
          · injection hop with hop
            subst hop
            refine ⟨rfl, fun W hW => ?_⟩
            obtain ⟨s0, s1, s2, s3, s4, s5⟩ := hW
            go_simp
            first
            | rfl
            | rw [if_neg (by omega)]
          try simp only [Act.put, List.setIfInBounds_toArray, List.set_cons_zero, List.set_cons_succ]
          refine wpAnyD_takeAt 11 (some 36) (v := ?_) rfl (by kernel_rfl) (by kernel_rfl) (by kernel_rfl) (by kernel_rfl) (by kernel_rfl) (fun _ _ _ h => h) (by exact ⟨q0, q1, q2, q3, t0, t1⟩) (fun o hop => ?_) ?_
          rotate_left
          · injection hop with hop
            subst hop
            refine ⟨rfl, fun W hW => ?_⟩
            obtain ⟨s0, s1, s2, s3, s4, s5⟩ := hW
            go_simp
            first
            | rfl
            | rw [if_neg (by omega)]
          try simp only [Act.put, List.setIfInBounds_toArray, List.set_cons_zero, List.set_cons_succ]
          refine wpAnyD_takeAt 12 (some 37) (v := ?_) rfl (by kernel_rfl) (by kernel_rfl) (by kernel_rfl) (by kernel_rfl) (by kernel_rfl) (fun _ _ _ h => h) (by exact ⟨q0, q1, q2, q3, t0, t1⟩) (fun o hop => ?_) ?_
          rotate_left
          · injection hop with hop
            subst hop
            refine ⟨rfl, fun W hW => ?_⟩
            obtain ⟨s0, s1, s2, s3, s4, s5⟩ := hW
            go_simp
            first
            | rfl
            | rw [if_neg (by omega)]
          try simp only [Act.put, List.setIfInBounds_toArray, List.set_cons_zero, List.set_cons_succ]
          refine wpAnyT_one (i := 9) (by kernel_rfl) rfl rfl (fun K' hK => ?_)
          go_simp
          go_at_call 63
          refine HFAR.out.mono ?_
          rintro e w6 ⟨F, rfl, hF0, hF, hb6⟩
          have hb6' : Below wc.heap.size wc w6 := ((Below.refl _ wc).drew).trans hb6
          obtain ⟨cF, fF⟩ := intsCell hF (j := qN) (by rw [HFL.out]; exact hqn)
          obtain ⟨z, hz⟩ : ∃ z, z = (farL n (links.eraseIdx k) (pN : Int)).getD qN 0 := ⟨_, rfl⟩
          rw [← hz] at cF
          have HZ := hide' hz
          have HB6 : Hid (Below wr.heap.size wr w6) := HWB.out.trans (hb6'.mono HWB.out.size)
          have p0 := (hb6'.cell (World.block_lt_of_cell? wc _ q0)).trans q0
          have p1 := (hb6'.cell (World.block_lt_of_cell? wc _ q1)).trans q1
          have p2 := (hb6'.cell (World.block_lt_of_cell? wc _ q2)).trans q2
          have p3 := (hb6'.cell (World.block_lt_of_cell? wc _ q3)).trans q3
          have p4 := (hb6'.cell (World.block_lt_of_cell? wc _ t0)).trans t0
          have p5 := (hb6'.cell (World.block_lt_of_cell? wc _ t1)).trans t1
          clear hF hF0 hb6 hb6' hz fF q0 q1 q2 q3 t0 t1 HFAR
          refine hK.out _ _ (fun _ => by exact ⟨p0, p1, p2, p3, p4, p5⟩) ?_
          clear hK K'
          refine wpAnyT_one (i := 13) (by kernel_rfl) rfl rfl (fun K' hK => ?_)
          go_simp
          refine hK.out _ _ (fun _ => by exact ⟨p0, p1, p2, p3, p4, p5⟩) ?_
          clear hK K'
          refine wpAnyT_one (i := 14) (by kernel_rfl) rfl rfl (fun K' hK => ?_)
          go_simp
          refine hK.out _ _ (fun _ => by exact ⟨p0, p1, p2, p3, p4, p5⟩) ?_
          clear hK K'
          refine wpAnyT_one (i := 15) (by kernel_rfl) rfl rfl (fun K' hK => ?_)
          go_simp
          refine hK.out _ _ (fun _ => by exact ⟨p0, p1, p2, p3, p4, p5⟩) ?_
          clear hK K'
          refine wpAnyT_one (i := 16) (by kernel_rfl) rfl rfl (fun K' hK => ?_)
          go_simp
          refine hK.out _ _ (fun h => absurd rfl h) ?_
          clear hK K'
          refine wpAnyT_done (by kernel_rfl) ?_ _
          by_cases hz : z = -1
          · have HNX2 : Hid (bridgesS n links (k + 1) = bridgesS n links k ++ [no]) := by
              show _ = _
              rw [HNX.out, if_pos ⟨by trivial, by rw [← HZ.out]; exact hz⟩]
            have hzb : (z == -1) = true := beq_iff_eq.2 hz
            have hOW := own_below HOW.out HB6.out
            have HSZ : Hid (w.heap.size + 1 ≤ w6.heap.size) := by
              have h1 := (Array.getElem?_eq_some_iff.1 HBX.out.box).1
              have h2 := HB6.out.size
              show _ ≤ _
              omega
            clear hz cF p0 p2 p3 p4 p5
            go_wp2_with (at_builtin; (refine wpList_append_own _ rfl _ _ 36 rfl (w.heap.size + 1) 3 i0 (.int .i64 0) 1 8 Tryz.underlying36 hi0 hzz0 hzz1 hzz2 rfl (by decide) _ _ _ rfl (hOW.alloc _) ⟨w6.heap.size, 0, none⟩ 1 1 [.int .i64 no] rfl rfl (cell_one_new _ _ _) (one_cell rfl) (by unfold maxLen; omega) (by omega) (by have := HSZ.out; rw [World.size_alloc]; omega) ?_; intro v' w7 hown' hgrow _; refine Still.go ?_))
            unfold Still
            have hg7 : (w6.alloc (.cells #[.int .i64 no] 3)).grownBy w7 u3.ownBlock := hgrow
            have HS7 : Hid (w7.ownsRow (w.heap.size + 1) 3 1 v' (bridgesS n links (k + 1)).length (ints (bridgesS n links (k + 1))) ∧ GBx w w7 #[.int .i64 n, .slice (some ⟨bt, ot, none⟩) links.length cap]) := by
              refine ⟨?_, ((HBX.out.later HB6.out).later ((Below.refl _ w6).alloc (Nat.le_refl _) _)).grown hg7 (fun j hj => by have := own_at HOW.out j hj; omega)⟩
              rw [HNX2.out, ints_snoc, List.length_append]
              exact hown'
            clear hgrow hg7 hown' hOW p1
            go_wp2
            exact ⟨⟨k + 1, v', by go_num, rfl, by omega, HS7.out.1, HS7.out.2⟩, by simp [intOf]; omega⟩
          · have HS2 : Hid (w6.ownsRow (w.heap.size + 1) 3 1 u3 (bridgesS n links (k + 1)).length (ints (bridgesS n links (k + 1))) ∧ GBx w w6 #[.int .i64 n, .slice (some ⟨bt, ot, none⟩) links.length cap]) := by
              rw [HNX.out, if_neg (fun h => hz (by rw [HZ.out]; exact h.2))]
              exact ⟨own_below HOW.out HB6.out, HBX.out.later HB6.out⟩
            have hzb : (z == -1) = false := beq_eq_false_iff_ne.2 hz
            clear p0 p1 p2 p3 p4 p5 cF
            go_wp2
            exact ⟨⟨k + 1, u3, by go_num, rfl, by omega, HS2.out.1, HS2.out.2⟩, by simp [intOf]; omega⟩
    · have hkn : k = links.length := by omega
      subst hkn
      go_wp2
      go_ret
      exact ⟨l, rfl, HOW.out, HBX.out.bel⟩
end Go.Proofs.YtkcldnnopmagjabGreatDoor.Bar

/- The document's bridges; they are the program's. -/
namespace Go.Proofs.YtkcldnnopmagjabGreatDoor.Bar
open Go.RowKit Go.Shelf Doc

/-- The document's bridges, line by line. -/
def bridgesD (N : NetM) (out : List Bool) : Nat → List Int
  | 0 => []
  | k + 1 => match N.lines[k]? with
    | some t => if out.getD k false then bridgesD N out k else if (joinedL N (out.set k true) true).getD t.frm.toNat 0 = (joinedL N (out.set k true) true).getD t.to.toNat 0 then bridgesD N out k else bridgesD N out k ++ [(k : Int)]
    | none => bridgesD N out k
theorem bridgesD_len (N : NetM) (out : List Bool) : ∀ k, (bridgesD N out k).length ≤ k
  | 0 => Nat.le_refl _
  | k + 1 => by
    have := bridgesD_len N out k
    rw [bridgesD]
    split
    · split
      · omega
      · split
        · omega
        · rw [List.length_append]; simp; omega
    · omega
theorem bridges_lines {N : NetM} {out : List Bool} (he : EndsM N) (hol : out.length = N.lines.length) : ∀ k, k ≤ N.lines.length → bridgesS N.buses.length (serviceL N out) (linksN N.lines out k).length = bridgesD N out k
  | 0, _ => rfl
  | k + 1, hk => by
    have ih := bridges_lines he hol k (by omega)
    have hlt : k < N.lines.length := by omega
    have ht : N.lines[k]? = some N.lines[k] := List.getElem?_eq_getElem hlt
    obtain ⟨t, hte⟩ : ∃ t, t = N.lines[k] := ⟨_, rfl⟩
    rw [← hte] at ht
    rw [bridgesD, linksN, ht]
    show bridgesS N.buses.length (serviceL N out) (if out.getD k false then linksN N.lines out k else linksN N.lines out k ++ [⟨false, (k : Int), t.frm, t.to⟩]).length = if out.getD k false then bridgesD N out k else if (joinedL N (out.set k true) true).getD t.frm.toNat 0 = (joinedL N (out.set k true) true).getD t.to.toNat 0 then bridgesD N out k else bridgesD N out k ++ [(k : Int)]
    by_cases ho : out.getD k false = true
    · rw [if_pos ho, if_pos ho]; exact ih
    · have ho' : out.getD k false = false := by simpa using ho
      rw [if_neg ho, if_neg ho, List.length_append]
      obtain ⟨s1, s2⟩ := service_less (N := N) hol ht ho'
      show bridgesS N.buses.length (serviceL N out) ((linksN N.lines out k).length + 1) = _
      rw [bridgesS, s1, s2, ih]
      obtain ⟨p0, p1, p2, p3⟩ := he.lines t (by rw [hte]; exact List.getElem_mem hlt)
      obtain ⟨pN, hpN⟩ := Int.eq_ofNat_of_zero_le p0
      obtain ⟨qN, hqN⟩ := Int.eq_ofNat_of_zero_le p2
      have hf := far_groups (serviceL_ends he (out.set k true)) (a := pN) (b := qN) (by omega) (by omega)
      rw [islands_one he (out.set k true)] at hf
      show (if (false : Bool) = false ∧ (farL N.buses.length (serviceL N (out.set k true)) t.frm).getD t.to.toNat 0 = -1 then bridgesD N out k ++ [(k : Int)] else bridgesD N out k) = _
      rw [hpN, hqN, Int.toNat_natCast, Int.toNat_natCast]
      by_cases hj : (joinedL N (out.set k true) true).getD pN 0 = (joinedL N (out.set k true) true).getD qN 0
      · rw [if_pos hj, if_neg (fun h => (hf.1 h.2) hj)]
      · rw [if_neg hj, if_pos ⟨rfl, hf.2 hj⟩]
/-- The program's bridges are the document's. -/
theorem bridges_one {N : NetM} {out : List Bool} (he : EndsM N) (hol : out.length = N.lines.length) : bridgesL N.buses.length (serviceL N out) = bridgesD N out N.lines.length := by
  rw [← bridges_lines he hol N.lines.length (Nat.le_refl _), bridgesL]
  have h1 : (serviceL N out).length = (linksN N.lines out N.lines.length).length + (linksT N.ties N.ties.length).length := by rw [serviceL, List.length_append]
  rw [h1]
  exact bridges_ties (linksT_tie N.ties _) _
/-- A list of one's own with one more line out. -/
theorem own_bool_set {W : World} {B k : Nat} {v : Value} {out : List Bool} (h : W.ownsRow B 4 1 v out.length (out.map Value.bool)) (hk : k < out.length) :
    ∃ g cp, v = .slice (some ⟨g, 0, none⟩) out.length cp ∧ B ≤ g ∧ W.cell? ⟨g, k, none⟩ = some (.bool (out.getD k false)) ∧ W.frozen? ⟨g, k, none⟩ = false ∧ RowAt (W.setCell ⟨g, k, none⟩ (.bool true)) (.slice (some ⟨g, 0, none⟩) out.length cp) out.length 1 ((out.set k true).map Value.bool) := by
  have hrow := rowAt_of_own h
  rcases h.2 with ⟨_, e2⟩ | ⟨g, cp, cur, e1, h4, h5, h6, _⟩
  · have e3 : (out.map Value.bool).length = 0 := by
      have := h.1
      first
      | (rw [e2] at this; simpa using this)
      | omega
    rw [List.length_map] at e3
    omega
  · subst e1
    have hcell : ∀ j u, (out.map Value.bool)[j]? = some u → W.cell? ⟨g, j, none⟩ = some u := fun j u hj => by
      obtain ⟨-, a', c', e, hc⟩ := hrow
      cases e
      obtain ⟨b', off', e3, hc1⟩ := hc j u hj
      cases e3
      rwa [Nat.zero_add] at hc1
    have hkc : (out.map Value.bool)[k]? = some (.bool (out.getD k false)) := by
      rw [List.getElem?_map, List.getD_eq_getElem?_getD, List.getElem?_eq_getElem hk]; rfl
    refine ⟨g, cp, rfl, h4, hcell _ _ hkc, by simp [World.frozen?, h5], by simp, _, _, rfl, fun j u hj => ⟨g, 0, rfl, ?_⟩⟩
    have hs := set_any h5 k (.bool true)
    have hks : k < cur.size := by
      have h9 := hcell _ _ hkc
      simp only [World.cell?, h5] at h9
      exact (Array.getElem?_eq_some_iff.1 h9).1
    simp only [World.cell?, hs]
    show (cur.setIfInBounds k (.bool true))[0 + j]? = some u
    rw [Nat.zero_add, Array.getElem?_setIfInBounds]
    rw [List.getElem?_map, List.getElem?_set] at hj
    by_cases e : k = j
    · subst e
      rw [if_pos rfl, if_pos hks]
      rw [if_pos rfl, if_pos hk] at hj
      simpa using hj
    · rw [if_neg e]
      rw [if_neg e] at hj
      have h9 := hcell j u (by rw [List.getElem?_map]; exact hj)
      simp only [World.cell?, h5] at h9
      exact h9
end Go.Proofs.YtkcldnnopmagjabGreatDoor.Bar

/- The document's own answer on bridges. -/
namespace Go.Proofs.YtkcldnnopmagjabGreatDoor.Bar
open Go.RowKit Go.Shelf Doc

/-- The bridges at work: the network's box, and those found so far. -/
structure BSt (w W : World) (g : Array Value) (B : Nat) (lv : Value) (l : List Int) : Prop where
  bx : NBx w W g
  own : W.ownsRow B 3 1 lv l.length (ints l)
  hB : w.heap.size < B ∧ B ≤ W.heap.size
theorem BSt.later {w W W' : World} {g : Array Value} {B : Nat} {lv : Value} {l : List Int} (h : BSt w W g B lv l) (hb : Below W.heap.size W W') : BSt w W' g B lv l := ⟨h.bx.later hb, own_below h.own hb, h.hB.1, Nat.le_trans h.hB.2 hb.size⟩

set_option maxRecDepth 100000 in
set_option maxHeartbeats 4000000 in
theorem BridgesOf_any (N : NetM) (v outv : Value) (out : List Bool) (w : World) (hx : NetAt w v N) (hsm : SmallM N) (ho : RowAt w outv out.length 1 (out.map Value.bool)) (hol : out.length ≤ 2000000) :
    Calls Tryz.prog 22 #[v, outv] w (IslandsAs (bridgesD N out N.lines.length) N out w) := by
  obtain ⟨vb, vl, vg, vd, vt, rfl, hb, hl, hg, hd, ht⟩ := hx
  obtain ⟨ab, cb, rfl⟩ := rowAt_slice hb
  obtain ⟨al, cl, rfl⟩ := rowAt_slice hl
  obtain ⟨ag, cg, rfl⟩ := rowAt_slice hg
  obtain ⟨ad, cd, rfl⟩ := rowAt_slice hd
  obtain ⟨at', ct, rfl⟩ := rowAt_slice ht
  have HO := hide' ho
  obtain ⟨ao, co, rfl⟩ := rowAt_slice ho
  have HLI := hide' hl
  have HNW : Hid (∀ W, Below w.heap.size w W → NetAt W (.agg #[.string N.name, .slice ab N.buses.length cb, .slice al N.lines.length cl, .slice ag N.gens.length cg, .slice ad N.loads.length cd, .slice at' N.ties.length ct]) N) := fun W h => ⟨_, _, _, _, _, rfl, RowAt.below hb h (Nat.le_refl _), RowAt.below hl h (Nat.le_refl _), RowAt.below hg h (Nat.le_refl _), RowAt.below hd h (Nat.le_refl _), RowAt.below ht h (Nat.le_refl _)⟩
  obtain ⟨W, hW⟩ : ∃ W, W = w.alloc (.cells #[.string N.name, .slice ab N.buses.length cb, .slice al N.lines.length cl, .slice ag N.gens.length cg, .slice ad N.loads.length cd, .slice at' N.ties.length ct] 28) := ⟨_, rfl⟩
  have HX : Hid (NBx w W #[.string N.name, .slice ab N.buses.length cb, .slice al N.lines.length cl, .slice ag N.gens.length cg, .slice ad N.loads.length cd, .slice at' N.ties.length ct]) := by
    rw [hW]; exact ⟨(Below.refl _ w).alloc (Nat.le_refl _) _, World.alloc_heap_new w _⟩
  have HM := hide' (IslandsOf_any N _ (.slice ao out.length co) out W (HNW.out W HX.out.bel) hsm (RowAt.below HO.out HX.out.bel (Nat.le_refl _)) hol)
  have HW := hide' hW
  obtain ⟨i0, hi0, hzz0, hzz1, hzz2⟩ := info_parts Doc.Tryz.info3
  obtain ⟨i4, hi4, hyy0, hyy1, hyy2⟩ := info_parts Tryz.info4
  clear hW hb hl hg hd ht hsm ho
  go_enter Tryz.func22, Tryz.ntmps22
  go_wp2_with fail
  rw [← HW.out]
  refine HM.out.mono ?_
  intro e w1 hans
  by_cases hm : MayM N
  · by_cases heq : out.length = N.lines.length
    · obtain ⟨aa, ca, rfl, hrow0, hb1⟩ := answers_row (hans.1 hm heq)
      have HX1 := hide' (HX.out.later hb1)
      have HMay := hide' hm
      have HE := hide' (MayM.ends hm)
      have HEQ := hide' heq
      have HFT := hide' hm.fits
      have hll16 : N.lines.length ≤ 30 := hm.fits.2.1
      have HST : Hid (BSt w w1 #[.string N.name, .slice ab N.buses.length cb, .slice al N.lines.length cl, .slice ag N.gens.length cg, .slice ad N.loads.length cd, .slice at' N.ties.length ct] w1.heap.size (.slice none 0 0) (bridgesD N out 0)) := ⟨HX1.out, ⟨rfl, .inl ⟨rfl, rfl⟩⟩, (Array.getElem?_eq_some_iff.1 HX1.out.box).1, Nat.le_refl _⟩
      clear hans hb1 hm heq HM HX hrow0
      go_wp2_with fail
      go_loopw [8, 9] (fun l i wr => ∃ (k : Nat) (lv : Value), i = .int .i64 k ∧ l = lv ∧ k ≤ N.lines.length ∧ Hid (BSt w wr #[.string N.name, .slice ab N.buses.length cb, .slice al N.lines.length cl, .slice ag N.gens.length cg, .slice ad N.loads.length cd, .slice at' N.ties.length ct] w1.heap.size lv (bridgesD N out k))) (fun _ i _ => N.lines.length - (intOf i).toNat)
      case atStart => exact ⟨0, _, rfl, rfl, Nat.zero_le _, HST⟩
      case round =>
        clear HST
        obtain ⟨k, l, rfl, hl, hk, HS⟩ := hrel
        have hl' := hl.symm
        clear hl
        subst hl'
        obtain ⟨k0, k1, k2, k3, k4, k5⟩ := HS.out.bx.cells
        by_cases hlt : k < N.lines.length
        · obtain ⟨bt, ot, ct', ex, hbt, hct⟩ := row_elem (f := LineM.cells) (fun _ => rfl) HLI.out k hlt (by decide)
          cases ex
          obtain ⟨bo, oo, co', exo, hbo, hco⟩ := Row1.cell HO.out k (by rw [HEQ.out]; exact hlt)
          cases exo
          obtain ⟨t, hte⟩ : ∃ t, t = N.lines[k] := ⟨_, rfl⟩
          have HQ : Hid (N.lines[k]? = some t) := by show _ = _; rw [List.getElem?_eq_getElem hlt, hte]
          rw [← hte] at hct
          have hen := HE.out.lines t (by rw [hte]; exact List.getElem_mem hlt)
          have hc1 := hct 1 _ rfl
          have hc2 := hct 2 _ rfl
          obtain ⟨pN, hpN⟩ := Int.eq_ofNat_of_zero_le hen.1
          obtain ⟨qN, hqN⟩ := Int.eq_ofNat_of_zero_le hen.2.2.1
          have HNX : Hid (bridgesD N out (k + 1) = if out.getD k false then bridgesD N out k else if (joinedL N (out.set k true) true).getD pN 0 = (joinedL N (out.set k true) true).getD qN 0 then bridgesD N out k else bridgesD N out k ++ [(k : Int)]) := by
            show _ = _
            rw [bridgesD, HQ.out]
            show (if out.getD k false then bridgesD N out k else if (joinedL N (out.set k true) true).getD t.frm.toNat 0 = (joinedL N (out.set k true) true).getD t.to.toNat 0 then bridgesD N out k else bridgesD N out k ++ [(k : Int)]) = _
            rw [hpN, hqN, Int.toNat_natCast, Int.toNat_natCast]
          rw [hpN] at hc1
          rw [hqN] at hc2
          have hpn : pN < N.buses.length := by omega
          have hqn : qN < N.buses.length := by omega
          have HD1 : Hid (∀ W', Below w.heap.size w W' → W'.cell? ⟨bt, ot + k * 5 + 1, none⟩ = some (.int .i64 (pN : Int)) ∧ W'.cell? ⟨bt, ot + k * 5 + 2, none⟩ = some (.int .i64 (qN : Int))) := fun W' h => ⟨(h.cell (World.block_lt_of_cell? w _ hc1)).trans hc1, (h.cell (World.block_lt_of_cell? w _ hc2)).trans hc2⟩
          have d3 := (HS.out.bx.bel.cell (World.block_lt_of_cell? w _ hco)).trans hco
          obtain ⟨cl', hcl⟩ : ∃ c, c = out.getD k false := ⟨_, rfl⟩
          rw [← hcl] at d3
          have HCL := hide' hcl
          have hbl := bridgesD_len N out k
          have hko : k < out.length := by rw [HEQ.out]; exact hlt
          clear hct hc1 hc2 hco hen hpN hqN hte hcl hbt hbo
          cases cl' with
          | true =>
            have HS2 : Hid (BSt w wr #[.string N.name, .slice ab N.buses.length cb, .slice (some ⟨bt, ot, none⟩) N.lines.length cl, .slice ag N.gens.length cg, .slice ad N.loads.length cd, .slice at' N.ties.length ct] w1.heap.size l (bridgesD N out (k + 1))) := by
              rw [HNX.out, if_pos HCL.out.symm]
              exact HS.out
            go_wp2
            go_roundw
            case rel => exact ⟨k + 1, l, by go_num, rfl, by omega, HS2⟩
            case measure => simp [intOf]; omega
          | false =>
            have hro : RowAt wr (.slice (some ⟨bo, oo, none⟩) out.length co) out.length 1 (out.map Value.bool) := RowAt.below HO.out HS.out.bx.bel (Nat.le_refl _)
            obtain ⟨hn9, a9, c9, e9, hc9⟩ := hro
            cases e9
            have HC9 := hide' hc9
            have HN9 := hide' hn9
            clear hc9 hn9
            go_wp2_with (at_builtin; refine wpList_append_all _ rfl _ _ 35 rfl wr.heap.size 4 i4 _ 1 Tryz.underlying35' hi4 hyy0 hyy1 hyy2 rfl rfl (some ⟨bo, oo, none⟩) out.length co (out.map Value.bool) rfl HN9.out HC9.out (bools_one out) (by unfold maxLen; omega) (by omega) (Nat.le_refl _) ?_; intro v' w3 hown' hgrow; refine Still.go ?_)
            unfold Still
            have hb3 : Below wr.heap.size wr w3 := (Below.refl _ wr).grown hgrow (Nat.le_refl _) (fun k e => by cases e)
            obtain ⟨g, cp, rfl, hg0, hgc, hgf, hgr⟩ := own_bool_set (k := k) hown' (by rw [HEQ.out]; exact hlt)
            obtain ⟨W4, hW4⟩ : ∃ W4, W4 = w3.setCell ⟨g, k, none⟩ (.bool true) := ⟨_, rfl⟩
            have HB4 : Hid (Below wr.heap.size wr W4) := by rw [hW4]; exact hb3.setCell (p := ⟨g, k, none⟩) hg0 _
            have HS4 := hide' (HS.out.later HB4.out)
            rw [← hW4] at hgr
            have HJ := hide' (joined_any N _ (.slice (some ⟨g, 0, none⟩) out.length cp) (out.set k true) true W4 (HNW.out W4 HS4.out.bx.bel) HFT.out HE.out (fun _ => ⟨by rw [List.length_set]; exact HEQ.out, by rw [← HEQ.out]; exact hgr⟩))
            have HW4 := hide' hW4
            obtain ⟨m0, m1, m2, m3, m4, m5⟩ := HS4.out.bx.cells
            rw [hW4] at m0 m1 m2 m3 m4 m5
            clear hgrow hown' hb3 hg0 hgr hW4 d3 k0 k1 k2 k3 k4 k5
            go_wp2_with fail
            rw [← HW4.out]
            refine HJ.out.mono ?_
            rintro e w5 ⟨F, rfl, hF0, hF, hb5⟩
            have HS5 := hide' (HS4.out.later hb5)
            have hjl := joinedL_len N (out.set k true) true
            obtain ⟨cP, fP⟩ := intsCell hF (j := pN) (by rw [hjl]; exact hpn)
            obtain ⟨cQ, fQ⟩ := intsCell hF (j := qN) (by rw [hjl]; exact hqn)
            obtain ⟨y, hy⟩ : ∃ y, y = (joinedL N (out.set k true) true).getD pN 0 := ⟨_, rfl⟩
            obtain ⟨z, hz⟩ : ∃ z, z = (joinedL N (out.set k true) true).getD qN 0 := ⟨_, rfl⟩
            rw [← hy] at cP
            rw [← hz] at cQ
            obtain ⟨l1, l2⟩ := HD1.out _ HS5.out.bx.bel
            have n2 := HS5.out.bx.cells.2.2.1
            have HNY : Hid (bridgesD N out (k + 1) = if y = z then bridgesD N out k else bridgesD N out k ++ [(k : Int)]) := by
              show _ = _
              rw [HNX.out, ← HCL.out, if_neg (by decide), hy, hz]
            clear hF hF0 hb5 hy hz fP fQ HJ hjl m0 m1 m2 m3 m4 m5 hgc hgf HD1
            by_cases hyz : y = z
            · have HS6 : Hid (∀ q, BSt w (w5.drewN q) #[.string N.name, .slice ab N.buses.length cb, .slice (some ⟨bt, ot, none⟩) N.lines.length cl, .slice ag N.gens.length cg, .slice ad N.loads.length cd, .slice at' N.ties.length ct] w1.heap.size l (bridgesD N out (k + 1))) := fun q => by
                rw [HNY.out, if_pos hyz]
                exact HS5.out.later (below_drewN (Below.refl _ w5) q)
              have hyb : (y == z) = true := beq_iff_eq.2 hyz
              subst hyz
              go_wp2_with fail
              go_quiet (fail)
              go_wp2
              go_roundw
              case rel => exact ⟨k + 1, l, by go_num, rfl, by omega, HS6.out _⟩
              case measure => simp [intOf]; omega
            · have hyb : (y == z) = false := beq_eq_false_iff_ne.2 hyz
              have HYZ := hide' hyz
              go_wp2_with fail
              go_quiet (fail)
              obtain ⟨W6, hW6⟩ : ∃ W6, W6 = w5.drewN nq := ⟨_, rfl⟩
              rw [← hW6]
              have HS6 : Hid (BSt w W6 #[.string N.name, .slice ab N.buses.length cb, .slice (some ⟨bt, ot, none⟩) N.lines.length cl, .slice ag N.gens.length cg, .slice ad N.loads.length cd, .slice at' N.ties.length ct] w1.heap.size l (bridgesD N out k)) := by
                rw [hW6]; exact HS5.out.later (below_drewN (Below.refl _ w5) nq)
              have hOW := HS6.out.own
              have HSZ : Hid (w1.heap.size ≤ W6.heap.size) := HS6.out.hB.2
              clear hW6 cP cQ l1 l2 n2 hyz
              go_wp2_with (at_builtin; (refine wpList_append_own _ rfl _ _ 36 rfl w1.heap.size 3 i0 (.int .i64 0) 1 8 Tryz.underlying36 hi0 hzz0 hzz1 hzz2 rfl (by decide) _ _ _ rfl (hOW.alloc _) ⟨W6.heap.size, 0, none⟩ 1 1 [.int .i64 (k : Int)] rfl rfl (cell_one_new _ _ _) (one_cell rfl) (by unfold maxLen; omega) (by omega) (by have := HSZ.out; rw [World.size_alloc]; omega) ?_; intro v' w7 hown' hgrow _; refine Still.go ?_))
              unfold Still
              have hg7 : (W6.alloc (.cells #[.int .i64 (k : Int)] 3)).grownBy w7 l.ownBlock := hgrow
              have HS7 : Hid (BSt w w7 #[.string N.name, .slice ab N.buses.length cb, .slice (some ⟨bt, ot, none⟩) N.lines.length cl, .slice ag N.gens.length cg, .slice ad N.loads.length cd, .slice at' N.ties.length ct] w1.heap.size v' (bridgesD N out (k + 1))) := by
                have h1 := HS6.out.hB
                refine ⟨(HS6.out.bx.later ((Below.refl _ W6).alloc (Nat.le_refl _) _)).grown hg7 (fun j hj => by have := own_at hOW j hj; omega), ?_, h1.1, by have := hg7.size; rw [World.size_alloc] at this; omega⟩
                rw [HNY.out, if_neg HYZ.out, ints_snoc, List.length_append]
                exact hown'
              clear hgrow hg7 hown' hOW
              go_wp2
              go_roundw
              case rel => exact ⟨k + 1, v', by go_num, rfl, by omega, HS7⟩
              case measure => simp [intOf]; omega
        · have hkn : k = N.lines.length := by omega
          subst hkn
          obtain ⟨a3, c3, hlv⟩ := own_slice HS.out.own
          subst hlv
          go_wp2
          refine bodyPost_ret (results_tmp2 rfl _ _ _) rfl ?_
          exact ⟨fun _ _ => ⟨_, rfl, rowAt_of_own HS.out.own, HS.out.bx.bel⟩, fun _ h => absurd HEQ.out h, fun h => absurd HMay.out h⟩
    · obtain ⟨aa, ca, rfl, hrow0, hb1⟩ := answers_row (hans.2.1 hm heq)
      have HB1 : Hid (Below w.heap.size w w1) := (HX.out.later hb1).bel
      have HMay := hide' hm
      have HEQ := hide' heq
      clear hans hb1 hm heq HM hrow0
      go_wp2
      refine bodyPost_ret (results_tmp2 rfl _ _ _) rfl ?_
      exact ⟨fun _ h => absurd h HEQ.out, fun _ _ => answers_nil HB1.out, fun h => absurd HMay.out h⟩
  · obtain ⟨aa, ca, rfl, hrow0, hb1⟩ := answers_row (hans.2.2 hm)
    have HB1 : Hid (Below w.heap.size w w1) := (HX.out.later hb1).bel
    have HMay := hide' hm
    clear hans hb1 hm HM hrow0
    go_wp2
    refine bodyPost_ret (results_tmp2 rfl _ _ _) rfl ?_
    exact ⟨fun h => absurd h HMay.out, fun h => absurd h HMay.out, fun _ => answers_nil HB1.out⟩
end Go.Proofs.YtkcldnnopmagjabGreatDoor.Bar

/- The program's Bridges over any network; BarsBridges: at whatever network, the program's bridges are the document's. -/
namespace Go.Proofs.YtkcldnnopmagjabGreatDoor.Bar
open Go.RowKit Go.Shelf Doc

set_option maxRecDepth 100000 in
set_option maxHeartbeats 4000000 in
theorem Bridges_any (N : NetM) (B1 : Nat) (b l g d t outv : Value) (out : List Bool) (mx : Int) (w : World) (hsm : SmallM N) (htb : TabAll w) (ho : Owns w B1 b l g d t N) (hm : w.cell? ⟨1, 0, none⟩ = some (.int .i64 mx)) (hor : RowAt w outv out.length 1 (out.map Value.bool)) (hol : out.length ≤ 2000000) :
    Calls Tryz.prog 21 #[.agg #[.string N.name, b, l, g, d, t], outv] w (IslandsAs (bridgesL N.buses.length (serviceL N out)) N out w) := by
  obtain ⟨ab, cb, rfl⟩ := own_slice ho.hb
  obtain ⟨al, cl, rfl⟩ := own_slice ho.hl
  obtain ⟨ag, cg, rfl⟩ := own_slice ho.hg
  obtain ⟨ad, cd, rfl⟩ := own_slice ho.hd
  obtain ⟨at', ct, rfl⟩ := own_slice ho.ht
  obtain ⟨W, hW⟩ : ∃ W, W = w.alloc (.cells #[.string N.name, .slice ab N.buses.length cb, .slice al N.lines.length cl, .slice ag N.gens.length cg, .slice ad N.loads.length cd, .slice at' N.ties.length ct] 28) := ⟨_, rfl⟩
  have hbW : Below w.heap.size w W := by rw [hW]; exact (Below.refl _ w).alloc (Nat.le_refl _) _
  have hoW : Owns W B1 (.slice ab N.buses.length cb) (.slice al N.lines.length cl) (.slice ag N.gens.length cg) (.slice ad N.loads.length cd) (.slice at' N.ties.length ct) N := by
    rw [hW]
    exact ⟨ho.hb.alloc _, ho.hl.alloc _, ho.hg.alloc _, ho.hd.alloc _, ho.ht.alloc _⟩
  have HIS := hide' (inService_any N B1 _ _ _ _ _ outv out mx W hsm (htb.later hbW) hoW ((hbW.cell (p := ⟨1, 0, none⟩) (World.block_lt_of_cell? w _ hm)).trans hm) (RowAt.below hor hbW (Nat.le_refl _)) hol)
  have HW := hide' hW
  have HBW := hide' hbW
  clear hW hoW hm htb hsm hor hbW ho
  go_enter Tryz.func21, Tryz.ntmps21
  go_wp2_with fail
  rw [← HW.out]
  refine HIS.out.mono ?_
  rintro e w1 ⟨hb1, h1, h2, h3⟩
  have HB1 : Hid (Below w.heap.size w w1) := HBW.out.trans (hb1.mono HBW.out.size)
  clear hb1 HIS
  by_cases hmay : MayM N
  · by_cases hlen : out.length = N.lines.length
    · obtain ⟨a, c, rfl, hrow⟩ := h1 hmay hlen
      have HMay := hide' hmay
      have HLN := hide' hlen
      have HB2 : Hid (Below w.heap.size w (w1.alloc (.cells #[.int .i64 N.buses.length, .slice a (serviceL N out).length c] 80))) := HB1.out.alloc HB1.out.size _
      have HG := hide' (bridges_any N.buses.length (by have := hmay.fits.1; omega) (serviceL N out) (serviceL_len hmay.fits out) (serviceL_ends (MayM.ends hmay) out) a c (w1.alloc (.cells #[.int .i64 N.buses.length, .slice a (serviceL N out).length c] 80)) (RowAt.below hrow ((Below.refl _ w1).alloc (Nat.le_refl _) _) (Nat.le_refl _)))
      clear h1 h2 h3 hmay hlen hrow
      go_wp2_with fail
      refine HG.out.mono ?_
      rintro e w3 ⟨v, rfl, hown, hb3⟩
      have HA := hide' (rowAt_of_own hown)
      have HB3 : Hid (Below w.heap.size w w3) := HB2.out.trans (hb3.mono HB2.out.size)
      clear hown hb3
      go_wp2
      refine bodyPost_ret (results_tmp2 rfl _ _ _) rfl ?_
      exact ⟨fun _ _ => ⟨_, rfl, HA.out, HB3.out⟩, fun _ h => absurd HLN.out h, fun h => absurd HMay.out h⟩
    · obtain rfl := h2 hmay hlen
      have HMay := hide' hmay
      have HLN := hide' hlen
      have HB2 : Hid (∀ o, Below w.heap.size w (w1.alloc o)) := fun o => HB1.out.alloc HB1.out.size o
      clear h1 h2 h3 hmay hlen
      go_wp2
      refine bodyPost_ret (results_tmp2 rfl _ _ _) rfl ?_
      exact ⟨fun _ h => absurd h HLN.out, fun _ _ => answers_nil (HB2.out _), fun h => absurd HMay.out h⟩
  · obtain rfl := h3 hmay
    have HMay := hide' hmay
    have HB2 : Hid (∀ o, Below w.heap.size w (w1.alloc o)) := fun o => HB1.out.alloc HB1.out.size o
    clear h1 h2 h3 hmay
    go_wp2
    refine bodyPost_ret (results_tmp2 rfl _ _ _) rfl ?_
    exact ⟨fun h => absurd h HMay.out, fun h => absurd h HMay.out, fun _ => answers_nil (HB2.out _)⟩

set_option maxRecDepth 100000 in
set_option maxHeartbeats 4000000 in
theorem BarsBridges_any (N : NetM) (v outv : Value) (out : List Bool) (mx : Int) (w : World) (hx : NetAt w v N) (hsm : SmallM N) (htb : TabAll w) (hm : w.cell? ⟨1, 0, none⟩ = some (.int .i64 mx)) (hor : RowAt w outv out.length 1 (out.map Value.bool)) (hol : out.length ≤ 2000000) :
    Calls Tryz.prog 6 #[v, outv] w fun e w' => e = .returned (.bool true) ∧ Below w.heap.size w w' := by
  obtain ⟨lc, cc, hlc, hC1, hC2⟩ : ∃ (lc : List Int) (cc : Int), lc.length ≤ 1000 ∧ (∀ w e w', IslandsAs (bridgesL N.buses.length (serviceL N out)) N out w e w' → Answers lc cc w e w') ∧ (∀ w e w', IslandsAs (bridgesD N out N.lines.length) N out w e w' → Answers lc cc w e w') := by
    by_cases h : MayM N
    · by_cases h2 : out.length = N.lines.length
      · exact ⟨bridgesD N out N.lines.length, 0, by have := bridgesD_len N out N.lines.length; have := h.fits.2.1; omega, fun w e w' h1 => by rw [← bridges_one (MayM.ends h) h2]; exact h1.1 h h2, fun w e w' h1 => h1.1 h h2⟩
      · exact ⟨[], 2, Nat.zero_le _, fun w e w' h1 => h1.2.1 h h2, fun w e w' h1 => h1.2.1 h h2⟩
    · exact ⟨[], 14, Nat.zero_le _, fun w e w' h1 => h1.2.2 h, fun w e w' h1 => h1.2.2 h⟩
  obtain ⟨b, l, g, d, t, rfl, hb, hl, hg, hd, ht⟩ := hx
  obtain ⟨ab, cb, rfl⟩ := rowAt_slice hb
  obtain ⟨al, cl, rfl⟩ := rowAt_slice hl
  obtain ⟨ag, cg, rfl⟩ := rowAt_slice hg
  obtain ⟨ad, cd, rfl⟩ := rowAt_slice hd
  obtain ⟨at', ct, rfl⟩ := rowAt_slice ht
  have hlens : lens2 N := hsm.lens
  obtain ⟨W, hW⟩ : ∃ W, W = w.alloc (.cells #[.string N.name, .slice ab N.buses.length cb, .slice al N.lines.length cl, .slice ag N.gens.length cg, .slice ad N.loads.length cd, .slice at' N.ties.length ct] 28) := ⟨_, rfl⟩
  have HX := hide' (Bx1.make hb hl hg hd ht hW)
  have h1w : 1 < w.heap.size := World.block_lt_of_cell? w _ hm
  have HKM : Hid (∀ W', Below w.heap.size w W' → W'.cell? ⟨1, 0, none⟩ = some (.int .i64 mx)) := fun W' h => (h.cell (p := ⟨1, 0, none⟩) h1w).trans hm
  have HKO : Hid (∀ W', Below w.heap.size w W' → RowAt W' outv out.length 1 (out.map Value.bool)) := fun W' h => RowAt.below hor h (Nat.le_refl _)
  have HTB := hide' htb
  have HSM := hide' hsm
  have HN1 := hide' (NetOf_any N _ W HX.out.net2 hlens)
  have HC1 := hide' hC1
  have HC2 := hide' hC2
  obtain ⟨k0, k1, k2, k3, k4, k5, kf⟩ := cells28 HX.out.box
  have HW := hide' hW
  clear hW hb hl hg hd ht hsm htb hm h1w hlens hC1 hC2 hor
  go_enter Tryz.func6, Tryz.ntmps6
  go_wp2_with fail
  rw [← HW.out]
  refine HN1.out.mono ?_
  rintro e w1 ⟨b1, l1, g1, d1, t1, rfl, ho1, hb1⟩
  have HX1 := hide' (HX.out.later hb1)
  have HO1 := hide' ho1
  have HSD := hide' (sides_any out outv w1 (HKO.out _ HX1.out.bel) hol)
  clear ho1 hb1 HX HN1 k0 k1 k2 k3 k4 k5 kf
  go_wp2_with fail
  refine HSD.out.mono ?_
  rintro e w2 ⟨ov, rfl, hov, hb2⟩
  have HX2 := hide' (HX1.out.later hb2)
  have hO2 : Owns w2 W.heap.size b1 l1 g1 d1 t1 N := ⟨own_below HO1.out.hb hb2, own_below HO1.out.hl hb2, own_below HO1.out.hg hb2, own_below HO1.out.hd hb2, own_below HO1.out.ht hb2⟩
  have HBR := hide' (Bridges_any N _ _ _ _ _ _ ov out mx w2 HSM.out (HTB.out.later HX2.out.bel) hO2 (HKM.out _ HX2.out.bel) (rowAt_of_own hov) hol)
  clear hb2 hov hO2 HO1 HX1 HSD
  go_wp2_with fail
  refine HBR.out.mono ?_
  intro e w3 hans
  obtain ⟨a1, c1, rfl, hrow1, hb3⟩ := answers_row (HC1.out _ _ _ hans)
  have HX3 := hide' (HX2.out.later hb3)
  have HR1 := hide' hrow1
  have HBO := hide' (BridgesOf_any N _ outv out w3 HX3.out.net2 HSM.out (HKO.out _ HX3.out.bel) hol)
  obtain ⟨k0, k1, k2, k3, k4, k5, kf⟩ := cells28 HX3.out.box
  clear hb3 hrow1 hans HBR HX2
  go_wp2_with fail
  refine HBO.out.mono ?_
  intro e w4 hans
  obtain ⟨a2, c2, rfl, hrow2, hb4⟩ := answers_row (HC2.out _ _ _ hans)
  have HX4 := hide' (HX3.out.later hb4)
  have HS1 := hide' (sameInts_any lc _ _ w4 (RowAt.below HR1.out hb4 (Nat.le_refl _)) hrow2 hlc)
  clear hb4 hrow2 hans HBO HX3 HR1 k0 k1 k2 k3 k4 k5 kf
  go_wp2_with fail
  refine HS1.out.mono ?_
  rintro e w5 ⟨rfl, q, rfl⟩
  go_wp2
  go_ret
  exact ⟨rfl, below_drewN HX4.out.bel _⟩
end Go.Proofs.YtkcldnnopmagjabGreatDoor.Bar
