/- The program's reader, over a whole text: it gives up as the document asks, or returns the network that the document asks. -/
import Derived.Test.YtpbalclhdhjnoaaGreatDoorKD4
import Derived.WideMake
namespace Go.Proofs.YtpbalclhdhjnoaaGreatDoor
open Go.RowKit Go.Maps
open scoped Classical

attribute [local go_sem] run_makeMap_plain Oper.semAt_some wide_fn wide_depth

theorem lines_any (s : ByteArray) (w : World) : Calls Tryz.prog 52 #[.string s] w fun e w' => e = .returned (.func (.func 58) #[] #[.pointer (some ⟨w.heap.size, 0, none⟩)]) ∧ w' = w.alloc (.cells #[.string s] 9) := by
  go_enter Tryz.func52, Tryz.ntmps52
  go_wp2
  go_ret
  exact ⟨rfl, rfl⟩
/-- The world when the reader's struct is laid: the result's box, the map of names, the struct. -/
def startW (w : World) : World := ((w.alloc (.cells #[.string ⟨#[]⟩, .slice none 0 0, .slice none 0 0, .slice none 0 0, .slice none 0 0, .slice none 0 0] 28)).alloc (.map #[] 0)).alloc
  (.cells #[.string ⟨#[]⟩, .slice none 0 0, .slice none 0 0, .slice none 0 0, .slice none 0 0, .slice none 0 0, .map (some (w.heap.size + 1)), .int .i64 0, .slice none 0 0] 99)
theorem start_size (w : World) : (startW w).heap.size = w.heap.size + 3 := by simp [startW]
theorem start_below (w : World) : Below w.heap.size w (startW w) := (((Below.refl _ w).alloc (Nat.le_refl _) _).alloc (by simp) _).alloc (by simp; omega) _
theorem start_box (w : World) : (startW w).heap[w.heap.size + 1 + 1]? = some (.cells #[.string ⟨#[]⟩, .slice none 0 0, .slice none 0 0, .slice none 0 0, .slice none 0 0, .slice none 0 0, .map (some (w.heap.size + 1)), .int .i64 0, .slice none 0 0] 99 (0, 0)) := by
  have := World.alloc_heap_new ((w.alloc (.cells #[.string ⟨#[]⟩, .slice none 0 0, .slice none 0 0, .slice none 0 0, .slice none 0 0, .slice none 0 0] 28)).alloc (.map #[] 0)) (.cells #[.string ⟨#[]⟩, .slice none 0 0, .slice none 0 0, .slice none 0 0, .slice none 0 0, .slice none 0 0, .map (some (w.heap.size + 1)), .int .i64 0, .slice none 0 0] 99)
  simpa [startW] using this
theorem start_map (w : World) : TakenAt (startW w) (w.heap.size + 1) 0 (fun _ => none) := by
  refine ⟨.map [], World.ownsMap.isMap (World.ownsMap_made w Tryz.prog 9 (plainElem Tryz.prog 3)), ?_, fun k => ⟨rfl, rfl⟩⟩
  have h := World.ownsMap_made (H := Unit) (w.alloc (.cells #[.string ⟨#[]⟩, .slice none 0 0, .slice none 0 0, .slice none 0 0, .slice none 0 0, .slice none 0 0] 28)) Tryz.prog 9 (plainElem Tryz.prog 3)
  rw [World.size_alloc] at h
  exact h.alloc _
theorem start_res (w : World) : (startW w).heap[w.heap.size]? = some (.cells #[.string ⟨#[]⟩, .slice none 0 0, .slice none 0 0, .slice none 0 0, .slice none 0 0, .slice none 0 0] 28 (0, 0)) := by
  have h1 := World.alloc_heap_new w (.cells #[.string ⟨#[]⟩, .slice none 0 0, .slice none 0 0, .slice none 0 0, .slice none 0 0, .slice none 0 0] 28)
  refine (Below.heap_alloc _ _ _ (by simp; omega)).trans ((Below.heap_alloc _ _ _ (by simp)).trans h1)
theorem start_st (w : World) : St (startW w) (w.heap.size + 1) (startW w).heap.size (w.heap.size + 1 + 1) (w.heap.size + 1) emptyNet 0 (fun _ => none) 0 [] :=
  ⟨_, _, _, _, _, _, StV.make (start_box w) ⟨World.ownsRow_nil _ _ _ _, World.ownsRow_nil _ _ _ _, World.ownsRow_nil _ _ _ _, World.ownsRow_nil _ _ _ _, World.ownsRow_nil _ _ _ _⟩ (start_map w) ⟨by simp, none, 0, rfl, by simp, by unfold maxLen; omega, .inl rfl⟩ (by omega) (Nat.le_refl _)⟩

/-- A network's six fields are stored into a box. -/
def six (W : World) (p : Nat) (v0 v1 v2 v3 v4 v5 : Value) : World := (((((W.setCell ⟨p, 0, none⟩ v0).setCell ⟨p, 1, none⟩ v1).setCell ⟨p, 2, none⟩ v2).setCell ⟨p, 3, none⟩ v3).setCell ⟨p, 4, none⟩ v4).setCell ⟨p, 5, none⟩ v5
theorem set_any {W : World} {p : Nat} {cur : Array Value} {ty : TypeId} {fz : Nat × Nat} (h : W.heap[p]? = some (.cells cur ty fz)) (j : Nat) (u : Value) : (W.setCell ⟨p, j, none⟩ u).heap[p]? = some (.cells (cur.setIfInBounds j u) ty fz) := by
  simp only [World.setCell, Array.getElem?_modify, if_true, h, Option.map_some]
  rfl
theorem six_box {W : World} {p : Nat} {u0 u1 u2 u3 u4 u5 : Value} {ty : TypeId} {fz : Nat × Nat} (h : W.heap[p]? = some (.cells #[u0, u1, u2, u3, u4, u5] ty fz)) (v0 v1 v2 v3 v4 v5 : Value) : (six W p v0 v1 v2 v3 v4 v5).heap[p]? = some (.cells #[v0, v1, v2, v3, v4, v5] ty fz) :=
  set_any (set_any (set_any (set_any (set_any (set_any h 0 v0) 1 v1) 2 v2) 3 v3) 4 v4) 5 v5
theorem six_other (W : World) (p : Nat) (v0 v1 v2 v3 v4 v5 : Value) (k : Nat) (hk : k ≠ p) : (six W p v0 v1 v2 v3 v4 v5).heap[k]? = W.heap[k]? :=
  (Below.heap_setCell _ _ _ k hk).trans ((Below.heap_setCell _ _ _ k hk).trans ((Below.heap_setCell _ _ _ k hk).trans ((Below.heap_setCell _ _ _ k hk).trans ((Below.heap_setCell _ _ _ k hk).trans (Below.heap_setCell _ _ _ k hk)))))
theorem six_below {w W : World} {B p : Nat} (h : Below B w W) (hp : B ≤ p) (v0 v1 v2 v3 v4 v5 : Value) : Below B w (six W p v0 v1 v2 v3 v4 v5) :=
  (((((h.setCell (p := ⟨p, 0, none⟩) hp v0).setCell (p := ⟨p, 1, none⟩) hp v1).setCell (p := ⟨p, 2, none⟩) hp v2).setCell (p := ⟨p, 3, none⟩) hp v3).setCell (p := ⟨p, 4, none⟩) hp v4).setCell (p := ⟨p, 5, none⟩) hp v5
theorem six_own {W : World} {B p e sz n : Nat} {v : Value} {xs : List Value} {cur : Array Value} {fz : Nat × Nat} (h : W.ownsRow B e sz v n xs) (hp : W.heap[p]? = some (.cells cur 28 fz)) (he : e ≠ 28) (v0 v1 v2 v3 v4 v5 : Value) : (six W p v0 v1 v2 v3 v4 v5).ownsRow B e sz v n xs :=
  own_block h hp he fun k _ hk => six_other W p v0 v1 v2 v3 v4 v5 k hk
theorem own_base {W : World} {B B' e sz n : Nat} {v : Value} {xs : List Value} (h : W.ownsRow B e sz v n xs) (hB : B' ≤ B) : W.ownsRow B' e sz v n xs := by
  refine ⟨h.1, ?_⟩
  rcases h.2 with h2 | ⟨g, cap, cur, h3, h4, h5⟩
  · exact .inl h2
  · exact .inr ⟨g, cap, cur, h3, Nat.le_trans hB h4, h5⟩
theorem wpF_blockT {P : Program} {f : FuncId} {id : Nat} {c : Code} {K : Act → World → Prop} {Q : Exit → Act → World → Prop} {a : Act} {w : World} (h : wpF f P c (fun e a w => (e = .normal ∧ K a w) ∨ ∃ ch, e = .panic ch ∧ Q (.panic ch) a w) a w) : wpF f P (Code.block id c) (Exit.then K Q) a w := by
  refine wpF_mono (wpF_block h ?_) ?_
  · rintro e a w (⟨rfl, _⟩ | ⟨ch, rfl, _⟩)
    · exact .inl rfl
    · exact .inr ⟨ch, rfl⟩
  · rintro e a w (⟨rfl, h⟩ | ⟨ch, rfl, h⟩)
    · exact h
    · exact h
theorem empty_name : emptyNet.name.toList.isEmpty = true := by
  rw [Lib.toList_data]
  rfl
theorem eg23 : ∀ args w, (callFunc 58 args).run Tryz.prog w = .ok (.enter 58 args) w := enters_of Tryz.func58 (by kernel_rfl) rfl

/-- What take leaves of a line that is right, and of one that is wrong. -/
theorem round_ok {w A : World} {B K M : Nat} {b l g d t wv v : Value} {N : NetM} {n k : Nat} {f : Taken} {R : (Int × Int) × NetM} {line : ByteArray} {rest : List ByteArray} {k0 : ByteArray} {r : List ByteArray}
    (hs : StV A B A.heap.size K M b l g d t wv N n f k []) (hr : Rel f N) (hf : Fits N) (hn : n ≤ 2 * (namesM N).length) (hR : readGo (line :: rest) k N (!N.name.toList.isEmpty) = R) (hb : Below B w A) (hsz : ∀ x ∈ line :: rest, x.size ≤ 20000)
    (hw : wordsB line = k0 :: r) (hv : Wd A v (k0 :: r)) (hE : lineErr N k0 r = 0) :
    Calls Tryz.prog 53 #[.pointer (some ⟨K, 0, none⟩)] (lineIn A K ((k : Int) + 1) v) fun e w' => e = .returned (.tuple #[]) ∧ keptR A w' ∧ RdI w B K M R (rest, k + 1) w' := by
  have hl : (k0 :: r).length ≤ 100000 := by have := words_count line; rw [hw] at this; have := hsz line (by simp); omega
  have hst := lineIn_st hs ((k : Int) + 1) hv hl
  have hbl := lineIn_bel (A := A) hs.hBK ((k : Int) + 1) v
  have hn1 := names_le hf
  refine (take_any B _ K M n N f k0 r _ _ hst (Nat.le_refl _) hr ?_ (by omega)).mono ?_
  · intro x hx
    have h1 := words_size (line := line) x (by rw [hw]; simp [hx])
    have h2 := hsz line (by simp)
    omega
  · rintro e w' ⟨hbel, _, h2⟩
    obtain ⟨he, n', f', hn', hst', hr'⟩ := h2 hE
    obtain ⟨hl', _, hstep⟩ := lineErr_zero hE
    have hbl2 := hbl.trans hbel
    refine ⟨he, hbl2.rest, stepN N (k0 :: r), n', f', ?_, hr', fits_step hf hstep, Nat.le_trans hn' (moreN_le hl' hn), ?_, hb.trans hbl2.toBelow, fun x hx => hsz x (by simp [hx])⟩
    · exact hst'
    · rw [← hR, readGo_lineOk hw hE]
theorem round_no {w A : World} {B K M : Nat} {b l g d t wv v : Value} {N : NetM} {n k : Nat} {f : Taken} {R : (Int × Int) × NetM} {line : ByteArray} {rest : List ByteArray} {k0 : ByteArray} {r : List ByteArray}
    (hs : StV A B A.heap.size K M b l g d t wv N n f k []) (hr : Rel f N) (hf : Fits N) (hn : n ≤ 2 * (namesM N).length) (hR : readGo (line :: rest) k N (!N.name.toList.isEmpty) = R) (hb : Below B w A) (hsz : ∀ x ∈ line :: rest, x.size ≤ 20000)
    (hw : wordsB line = k0 :: r) (hv : Wd A v (k0 :: r)) (hE : lineErr N k0 r ≠ 0) :
    Calls Tryz.prog 53 #[.pointer (some ⟨K, 0, none⟩)] (lineIn A K ((k : Int) + 1) v) fun e w' => ∃ ch, e = .panicked ch ∧ keptR A w' ∧ RdP w B R ch w' := by
  have hl : (k0 :: r).length ≤ 100000 := by have := words_count line; rw [hw] at this; have := hsz line (by simp); omega
  have hst := lineIn_st hs ((k : Int) + 1) hv hl
  have hbl := lineIn_bel (A := A) hs.hBK ((k : Int) + 1) v
  have hn1 := names_le hf
  refine (take_any B _ K M n N f k0 r _ _ hst (Nat.le_refl _) hr ?_ (by omega)).mono ?_
  · intro x hx
    have h1 := words_size (line := line) x (by rw [hw]; simp [hx])
    have h2 := hsz line (by simp)
    omega
  · rintro e w' ⟨hbel, h1, _⟩
    have hbl2 := hbl.trans hbel
    rw [readGo_lineErr hw hE] at hR
    subst hR
    exact ⟨_, h1 hE, hbl2.rest, hE, rfl, hb.trans hbl2.toBelow⟩

set_option maxRecDepth 100000 in
set_option maxHeartbeats 2000000 in
theorem read_short (s : ByteArray) (mx : Int) (w : World) (hs : s.size ≤ 20000) (hm : w.cell? ⟨1, 0, none⟩ = some (.int .i64 mx)) (R : (Int × Int) × NetM) (hR : readGo (linesB s) 0 emptyNet false = R) :
    Calls Tryz.prog 40 #[.string s] w fun e w' => Below w.heap.size w w' ∧ (R.1.1 ≠ 0 → e = gaveUp R.1.1 R.1.2) ∧ (R.1.1 = 0 → ∃ b l g d t, e = .returned (.agg #[.string R.2.name, b, l, g, d, t]) ∧ Owns w' w.heap.size b l g d t R.2) := by
  refine calls_of_wpF Tryz.func40 rfl ?_
  simp only [Tryz.ntmps40, List.size_toArray, List.length_cons, List.length_nil, Nat.reduceAdd, Nat.reduceSub, Array.replicate_succ, Array.replicate_zero, List.push_toArray, List.append_toArray, List.nil_append, List.cons_append]
  refine wpF_seq ?_
  go_wp2
  refine wpF_seq ?_
  go_wp2
  obtain ⟨W0, hW0⟩ : ∃ W0, W0 = startW w := ⟨_, rfl⟩
  have hst := start_st w
  have hb0 := start_below w
  have hres := start_res w
  have hsz := start_size w
  rw [← hW0] at hst hb0 hres hsz
  unfold startW at hW0
  rw [← hW0]
  clear hW0
  obtain ⟨K, hK⟩ : ∃ K, K = w.heap.size + 1 + 1 := ⟨_, rfl⟩
  rw [← hK] at hst ⊢
  have HK := hide' hK
  have HS := hide' hst
  have HR := hide' hR
  have HB := hide' hb0
  have hd : decide ((s.size : Int) ≤ 20000) = true := by simp; omega
  clear hK hst hR hb0
  refine wpF_seq ?_
  go_wp2_with (go_at_call 51; refine (insist_yes _ _ _).mono ?_; rintro e w' ⟨rfl, rfl⟩)
  refine wpF_seq' (wpF_seq ?_)
  go_wp2_with (go_at_call 52; refine (lines_any _ _).mono ?_; rintro e w' ⟨rfl, rfl⟩)
  obtain ⟨W1, hW1⟩ : ∃ W1, W1 = w'.alloc (.cells #[.string s] 9) := ⟨_, rfl⟩
  rw [← hW1]
  have hb1 : Below w'.heap.size w' W1 := by rw [hW1]; exact (Below.refl _ _).alloc (Nat.le_refl _) _
  have hz1 : W1.heap.size = w.heap.size + 4 := by rw [hW1, World.size_alloc, hsz]
  have hBs : W1.cell? ⟨w.heap.size + 3, 0, none⟩ = some (.string s) := by
    have := World.alloc_heap_new w' (.cells #[.string s] 9)
    rw [← hW1, hsz] at this
    simp [World.cell?, this]
  have hBl : w.heap.size + 1 ≤ w'.heap.size := by omega
  have hI0 : RdI w' (w.heap.size + 1) K (w.heap.size + 1) R (linesB s, 0) W1 := by
    refine RdI.later (A := w') ⟨emptyNet, 0, fun _ => none, HS.out, Rel.empty, by unfold Fits emptyNet; simp, Nat.zero_le _, by rw [empty_name]; exact HR.out, Below.refl _ _, fun x hx => ?_⟩ hb1
    have := lines_size.2 x hx
    omega
  have hcell : ∀ i A, RdI w' (w.heap.size + 1) K (w.heap.size + 1) R i A → A.cell? ⟨1, 0, none⟩ = some (.int .i64 mx) := by
    rintro i A ⟨_, _, _, _, _, _, _, _, hb, _⟩
    have h1 := World.block_lt_of_cell? w _ hm
    rw [hb.cell (p := ⟨1, 0, none⟩) (by show 1 < w.heap.size + 1; omega), HB.out.cell (p := ⟨1, 0, none⟩) h1, hm]
  clear hW1 HR HS
  refine wpF_blockT (wpF_range (ι := List ByteArray × Nat) Tryz.func40 rfl eg23 (lines1_seq s hs (w.heap.size + 3) mx W1 (by omega) hBs) ?_ (RdI w' (w.heap.size + 1) K (w.heap.size + 1) R) (RdP w' (w.heap.size + 1) R) (fun i A B h hb => h.later hb) (fun i A l r r' hl hq h => h.putL hq (by omega) r') hcell hI0 ?_ ?_ ?_)
  · rintro i i' args A ⟨line, v, _, _, rfl, _⟩
    rfl
  · rintro l r r' ⟨ls, k⟩ ⟨rest, k'⟩ args A hl hq hI hI' ⟨line, v, h1, h2, rfl, hwd⟩
    simp only at h1 h2
    subst h1 h2
    refine ⟨{ tmps := #[.string s, undef, .pointer (some ⟨w.heap.size, 0, none⟩), .pointer (some ⟨K, 0, none⟩), .int .i64 ((k : Int) + 1), v, .map (some (w.heap.size + 1)), .agg #[.string ⟨#[]⟩, .slice none 0 0, .slice none 0 0, .slice none 0 0, .slice none 0 0, .slice none 0 0, .map (some (w.heap.size + 1)), .int .i64 0, .slice none 0 0], .string s, .int .i64 s.size, .bool true, .tuple #[], .string s, .func (.func 58) #[] #[.pointer (some ⟨w.heap.size + 3, 0, none⟩)], .int .i64 ((k : Int) + 1), v, undef, undef, undef, undef, undef, undef, undef, undef, undef, undef, undef, undef], defers := [] }, fun K' hK' => ?_, ?_⟩
    · gi_wp2
      exact hK'
    · obtain ⟨N, n, f, ⟨b, lv, g, d, t, wv, hst⟩, hr, hf, hn, hRd, hbA, hszs⟩ := hI'
      obtain ⟨A', hA'⟩ : ∃ A', A' = A.putObj l (.loop r') := ⟨_, rfl⟩
      rw [← hA'] at hst hbA ⊢
      have hwd' : Wd A' v (wordsB line) := by
        obtain ⟨bw, base, e, ho⟩ := hwd
        rw [hA']
        exact ⟨bw, base, e, ownsRow_putObj ho _ hq rfl⟩
      clear hI hwd hA' hq hI0 hcell hBs hres
      have c7 : A'.cell? ⟨K, 7, none⟩ = some (.int .i64 k) := hst.cell 7 rfl
      have c8 : A'.cell? ⟨K, 8, none⟩ = some wv := hst.cell 8 rfl
      have f7 := hst.frozen 7
      have f8 := hst.frozen 8
      obtain ⟨_, aw, cw, hwv, _⟩ := hst.words
      rw [hwv] at c8
      have HT := hide' hst
      have HF := hide' hRd
      have HBA := hide' hbA
      have HZ := hide' hszs
      clear hst hRd hbA hszs hwv
      cases hws : wordsB line with
      | nil =>
        rw [hws] at hwd'
        obtain ⟨bw, base, hv, ho⟩ := hwd'
        rw [hv] at ho ⊢
        have HW := hide' hws
        have HO := hide' ho
        clear hws ho hv
        gi_wp2
        have hbl := lineIn_bel (A := A') HT.out.hBK ((k : Int) + 1) (.slice (some ⟨bw, 0, none⟩) 0 0)
        exact ⟨hbl.rest, N, n, f, lineIn_st HT.out ((k : Int) + 1) (ws := []) ⟨bw, base, rfl, HO.out⟩ (by simp), hr, hf, hn, (readGo_nil HW.out).symm.trans HF.out, HBA.out.trans hbl.toBelow, fun x hx => HZ.out x (by simp [hx])⟩
      | cons k0 r0 =>
        rw [hws] at hwd'
        have hwd2 := hwd'
        obtain ⟨bw, base, hv, -⟩ := hwd'
        have hlen : (0 : Int) < (r0.length : Int) + 1 := by omega
        by_cases hE : lineErr N k0 r0 = 0
        · have hT := round_ok (w := w') HT.out hr hf hn HF.out HBA.out HZ.out hws hwd2 hE
          rw [hv] at hT ⊢
          unfold lineIn at hT
          simp only [List.length_cons] at hT
          have HTT := hide' hT
          clear hT hE hwd2 hws hv HT HF HBA HZ hr hf hn
          gi_wp2_with (gi_at_call 53; refine (CallsIn.inRound l ((callsIn_wide (n := 0)).2 HTT.out)).mono ?_; rintro e w3 ⟨rfl, hkp, hri⟩; have HX := hide' (And.intro hkp hri); clear hkp hri)
          exact HX.out
        · have hT := round_no (w := w') HT.out hr hf hn HF.out HBA.out HZ.out hws hwd2 hE
          rw [hv] at hT ⊢
          unfold lineIn at hT
          simp only [List.length_cons] at hT
          have HTT := hide' hT
          clear hT hE hwd2 hws hv HT HF HBA HZ hr hf hn
          gi_wp2_with (gi_at_call 53; refine (CallsIn.inRound l ((callsIn_wide (n := 0)).2 HTT.out)).mono ?_; rintro e w3 ⟨ch, rfl, hkp, hri⟩; have HX := hide' (And.intro hkp hri); clear hkp hri)
          exact ⟨rfl, HX.out⟩
  · intro D i W hD hE hI hDf
    refine .inl ⟨rfl, ?_⟩
    obtain ⟨N, n, f, ⟨b, lv, g, d, t, wv, hst⟩, hr, hf, hn, hRd, hbW, _⟩ := hI
    rw [hE, readGo] at hRd
    have hresW : W.heap[w.heap.size]? = _ := (hbW.block w.heap.size (by omega)).trans hres
    have c0 : W.cell? ⟨K, 0, none⟩ = some (.string N.name) := hst.cell 0 rfl
    have hbg := begun_any K N.name W c0
    have hBW : Below w.heap.size w W := HB.out.trans (hbW.mono (by omega))
    clear hcell hI0 hBs hres hb1 hr hf hn
    by_cases hnm : N.name.toList.isEmpty = true
    · have c7 : W.cell? ⟨K, 7, none⟩ = some (.int .i64 i.2) := hst.cell 7 rfl
      have hin := insist_no K 1 i.2 W c7
      rw [hnm] at hbg hRd
      have H1 := hide' hbg
      have H2 := hide' hin
      have H3 := hide' hRd
      have H4 := hide' hBW
      have H5 := hide' hDf
      clear hbg hin hRd hBW hbW hst hresW hnm hDf
      refine wpF_of_wp ?_
      go_wp2_with (first
        | (go_at_call 51; refine H2.out.mono ?_; rintro e w2 ⟨rfl, rfl⟩)
        | (go_at_call 54; refine H1.out.mono ?_; rintro e w2 ⟨rfl, rfl⟩))
      refine ⟨by simp, .inl ⟨_, _, rfl, run_takeDeferred H5.out, ?_⟩⟩
      have hR := H3.out
      rw [if_neg (by decide)] at hR
      subst hR
      exact ⟨below_putL H4.out (by omega), fun _ => rfl, fun h => by cases h⟩
    · have hnm' : N.name.toList.isEmpty = false := by simpa using hnm
      rw [hnm'] at hbg hRd
      obtain ⟨ab, cb, hvb⟩ := own_slice hst.owns.hb
      obtain ⟨al, cl, hvl⟩ := own_slice hst.owns.hl
      obtain ⟨ag, cg, hvg⟩ := own_slice hst.owns.hg
      obtain ⟨ad, cd, hvd⟩ := own_slice hst.owns.hd
      obtain ⟨at', ct, hvt⟩ := own_slice hst.owns.ht
      subst hvb hvl hvg hvd hvt
      have c1 := hst.cell 1 rfl
      have c2 := hst.cell 2 rfl
      have c3 := hst.cell 3 rfl
      have c4 := hst.cell 4 rfl
      have c5 := hst.cell 5 rfl
      have hrc : ∀ j v, (#[.string ⟨#[]⟩, .slice none 0 0, .slice none 0 0, .slice none 0 0, .slice none 0 0, .slice none 0 0] : Array Value)[j]? = some v → W.cell? ⟨w.heap.size, j, none⟩ = some v := fun j v hj => by
        simp only [World.cell?, hresW]
        exact hj
      have r0 := hrc 0 _ rfl
      have r1 := hrc 1 _ rfl
      have r2 := hrc 2 _ rfl
      have r3 := hrc 3 _ rfl
      have r4 := hrc 4 _ rfl
      have r5 := hrc 5 _ rfl
      have rf : ∀ j, W.frozen? ⟨w.heap.size, j, none⟩ = false := fun j => by simp [World.frozen?, hresW]
      have H1 := hide' hbg
      have H3 := hide' hRd
      have H4 := hide' hBW
      have H5 := hide' hDf
      have H6 := hide' hst
      have H7 := hide' hresW
      clear hbg hRd hBW hbW hst hresW hnm hDf hrc
      refine wpF_of_wp ?_
      go_wp2_with (first
        | (go_at_call 51; refine (insist_yes _ _ _).mono ?_; rintro e w2 ⟨rfl, rfl⟩)
        | (go_at_call 54; refine H1.out.mono ?_; rintro e w2 ⟨rfl, rfl⟩))
      have hR := H3.out
      rw [if_pos (by decide)] at hR
      subst hR
      obtain ⟨W3, hW3⟩ : ∃ W3, W3 = six w2 w.heap.size (.string N.name) (.slice ab N.buses.length cb) (.slice al N.lines.length cl) (.slice ag N.gens.length cg) (.slice ad N.loads.length cd) (.slice at' N.ties.length ct) := ⟨_, rfl⟩
      have hD3 : W3.heap[D]? = some (.deferred (some [])) := by rw [hW3]; exact (six_other _ _ _ _ _ _ _ _ D (by omega)).trans H5.out
      have hb3 : W3.heap[w.heap.size]? = some (.cells #[.string N.name, .slice ab N.buses.length cb, .slice al N.lines.length cl, .slice ag N.gens.length cg, .slice ad N.loads.length cd, .slice at' N.ties.length ct] 28 (0, 0)) := by rw [hW3]; exact six_box H7.out _ _ _ _ _ _
      have hBel : Below w.heap.size w W3 := by rw [hW3]; exact six_below H4.out (Nat.le_refl _) _ _ _ _ _ _
      have o := H6.out.owns
      have hp := H7.out
      have hown : Owns (W3.putObj D (.deferred none)) w.heap.size (.slice ab N.buses.length cb) (.slice al N.lines.length cl) (.slice ag N.gens.length cg) (.slice ad N.loads.length cd) (.slice at' N.ties.length ct) N := by
        rw [hW3] at hD3 ⊢
        exact ⟨own_base (ownsRow_putObj (six_own o.hb hp (by decide) _ _ _ _ _ _) _ hD3 rfl) (by omega), own_base (ownsRow_putObj (six_own o.hl hp (by decide) _ _ _ _ _ _) _ hD3 rfl) (by omega), own_base (ownsRow_putObj (six_own o.hg hp (by decide) _ _ _ _ _ _) _ hD3 rfl) (by omega), own_base (ownsRow_putObj (six_own o.hd hp (by decide) _ _ _ _ _ _) _ hD3 rfl) (by omega), own_base (ownsRow_putObj (six_own o.ht hp (by decide) _ _ _ _ _ _) _ hD3 rfl) (by omega)⟩
      unfold six at hW3
      rw [← hW3]
      have hc : ∀ j v, (#[.string N.name, .slice ab N.buses.length cb, .slice al N.lines.length cl, .slice ag N.gens.length cg, .slice ad N.loads.length cd, .slice at' N.ties.length ct] : Array Value)[j]? = some v → (W3.putObj D (.deferred none)).cell? ⟨w.heap.size, j, none⟩ = some v := fun j v hj => by
        rw [World.cell?_of_block (World.putObj_heap_other (k := w.heap.size) (by omega))]
        simp only [World.cell?, hb3]
        exact hj
      have q0 : (W3.putObj D (.deferred none)).cell? ⟨w.heap.size, 0, none⟩ = some (.string N.name) := hc 0 _ rfl
      have q1 : (W3.putObj D (.deferred none)).cell? ⟨w.heap.size, 1, none⟩ = some (.slice ab N.buses.length cb) := hc 1 _ rfl
      have q2 : (W3.putObj D (.deferred none)).cell? ⟨w.heap.size, 2, none⟩ = some (.slice al N.lines.length cl) := hc 2 _ rfl
      have q3 : (W3.putObj D (.deferred none)).cell? ⟨w.heap.size, 3, none⟩ = some (.slice ag N.gens.length cg) := hc 3 _ rfl
      have q4 : (W3.putObj D (.deferred none)).cell? ⟨w.heap.size, 4, none⟩ = some (.slice ad N.loads.length cd) := hc 4 _ rfl
      have q5 : (W3.putObj D (.deferred none)).cell? ⟨w.heap.size, 5, none⟩ = some (.slice at' N.ties.length ct) := hc 5 _ rfl
      refine ⟨by simp, .inl ⟨_, _, rfl, run_takeDeferred hD3, ?_⟩⟩
      refine ⟨.agg #[.string N.name, .slice ab N.buses.length cb, .slice al N.lines.length cl, .slice ag N.gens.length cg, .slice ad N.loads.length cd, .slice at' N.ties.length ct], ?_, below_putL hBel (by omega), fun h => absurd rfl h, fun _ => ⟨_, _, _, _, _, rfl, hown⟩⟩
      simp [results, Tryz.results40, go_sem, q0, q1, q2, q3, q4, q5]
  · intro D ch W hD hp hDf
    refine .inr ⟨ch, rfl, ?_⟩
    refine ⟨by simp, .inl ⟨_, _, rfl, run_takeDeferred hDf, ?_⟩⟩
    obtain ⟨hne, rfl, hb⟩ := hp
    refine ⟨?_, fun _ => rfl, fun h => absurd h hne⟩
    exact below_putL (HB.out.trans (hb.mono (by omega))) (by omega)
end Go.Proofs.YtpbalclhdhjnoaaGreatDoor
