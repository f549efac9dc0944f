/- How many ways to stand there are at most (pure); what is so while an hour is gone through. -/
import Derived.Test.YtnhddmcdmcpkeajZ9
namespace Go.Proofs.Ytnhddmcdmcpkeaj
open Go.RowKit Go.Shelf

section
variable {ls : List LakeM} {L H : Nat} {ti : List (List Int)} {pr en : List Int} {all : List (List Int)}
/-- What comes of one way to stand by one release. -/
def newW (ls : List LakeM) (L : Nat) (ti : List (List Int)) (pr : List Int) (h : Nat) (w : Wet) (r : List Int) : Wet := ⟨hourS ls L w.s (ti.getD h []) r, w.e + earnK ls (pr.getD h 0) (r.getD 0 0) (r.getD 1 0) L, w.t ++ [r]⟩
def okW (ls : List LakeM) (L : Nat) (ti : List (List Int)) (h : Nat) (w : Wet) (r : List Int) : Bool := hourOk ls L w.s (ti.getD h []) r
def cand1 (ls : List LakeM) (L : Nat) (ti : List (List Int)) (pr : List Int) (h : Nat) (all : List (List Int)) (w : Wet) : List Wet := (all.filter (okW ls L ti h w)).map (newW ls L ti pr h w)
/-- What has come of the first k ways to stand, and of the next by the first j releases. -/
def nextP (ls : List LakeM) (L : Nat) (ti : List (List Int)) (pr : List Int) (h : Nat) (all : List (List Int)) (now : List Wet) (k j : Nat) : List Wet := ((now.take k).flatMap (cand1 ls L ti pr h all) ++ cand1 ls L ti pr h (all.take j) (now.getD k ⟨⟨0, 0, 0, 0⟩, 0, []⟩)).foldl putW []
theorem next_zero (h : Nat) (now : List Wet) : nextP ls L ti pr h all now 0 0 = [] := by simp [nextP, cand1]
theorem next_yes {h k j : Nat} {now : List Wet} (hj : j < all.length) (ho : okW ls L ti h (now.getD k ⟨⟨0, 0, 0, 0⟩, 0, []⟩) all[j] = true) : nextP ls L ti pr h all now k (j + 1) = putW (nextP ls L ti pr h all now k j) (newW ls L ti pr h (now.getD k ⟨⟨0, 0, 0, 0⟩, 0, []⟩) all[j]) := by
  unfold nextP
  generalize now.getD k ⟨⟨0, 0, 0, 0⟩, 0, []⟩ = y at ho ⊢
  rw [List.take_add_one, List.getElem?_eq_getElem hj]
  unfold cand1
  rw [List.filter_append, show List.filter (okW ls L ti h y) (some all[j]).toList = [all[j]] by simp [ho], List.map_append, ← List.append_assoc, List.foldl_append]
  rfl
theorem next_no {h k j : Nat} {now : List Wet} (hj : j < all.length) (ho : okW ls L ti h (now.getD k ⟨⟨0, 0, 0, 0⟩, 0, []⟩) all[j] = false) : nextP ls L ti pr h all now k (j + 1) = nextP ls L ti pr h all now k j := by
  unfold nextP
  generalize now.getD k ⟨⟨0, 0, 0, 0⟩, 0, []⟩ = y at ho ⊢
  rw [List.take_add_one, List.getElem?_eq_getElem hj]
  unfold cand1
  rw [List.filter_append, show List.filter (okW ls L ti h y) (some all[j]).toList = [] by simp [ho], List.append_nil]
theorem next_row {h k : Nat} {now : List Wet} (hk : k < now.length) : nextP ls L ti pr h all now k all.length = nextP ls L ti pr h all now (k + 1) 0 := by
  unfold nextP
  rw [List.take_add_one, List.getElem?_eq_getElem hk, List.flatMap_append, List.take_of_length_le (Nat.le_refl _), List.getD_eq_getElem?_getD, List.getElem?_eq_getElem hk]
  simp [cand1]
theorem next_all (h : Nat) : nextP ls L ti pr h all (nowL ls L ti pr all h) (nowL ls L ti pr all h).length 0 = nowL ls L ti pr all (h + 1) := by
  rw [nowL]
  unfold nextP
  rw [List.take_of_length_le (Nat.le_refl _)]
  simp only [cand1, List.take_zero, List.filter_nil, List.map_nil, List.append_nil]
  rfl
/-- A way to stand as it may come. -/
structure NowOk (ls : List LakeM) (L h : Nat) (w : Wet) : Prop where
  g : Good ls L w.s
  e : 0 ≤ w.e ∧ w.e ≤ 8000000 * h
  t : w.t.length = h
  r : ∀ l ∈ w.t, l.length = L
theorem rel_bd (hok : ∀ k ∈ ls, LakeOk k) : ∀ i, i ≤ ls.length → ∀ l ∈ relN ls i, ∀ x ∈ l, 0 ≤ x ∧ x ≤ 4
  | 0, _, l, h, x, hx => by unfold relN at h; simp at h; rw [h] at hx; cases hx
  | i + 1, hi, l, h, x, hx => by
    unfold relN at h
    obtain ⟨r, hr, hl⟩ := List.mem_flatMap.1 h
    unfold rng at hl
    obtain ⟨j, hj, rfl⟩ := List.mem_map.1 hl
    have ht := turb_le hok (i := i) (by omega)
    rcases List.mem_append.1 hx with hx | hx
    · exact rel_bd hok i (by omega) r hr x hx
    · rw [List.mem_singleton.1 hx]
      have := List.mem_range.1 hj
      omega
theorem getD_bd {l : List Int} (h : ∀ x ∈ l, 0 ≤ x ∧ x ≤ 4) (i : Nat) : 0 ≤ l.getD i 0 ∧ l.getD i 0 ≤ 4 := by
  by_cases hi : i < l.length
  · rw [List.getD_eq_getElem?_getD, List.getElem?_eq_getElem hi]
    exact h _ (List.getElem_mem hi)
  · rw [List.getD_eq_getElem?_getD, List.getElem?_eq_none (by omega)]
    exact ⟨by decide, by decide⟩
theorem in_bd (hp : PlanOk ls L H ti pr en) {h : Nat} (hh : h < H) : ∀ i, i < L → 0 ≤ (ti.getD h []).getD i 0 ∧ (ti.getD h []).getD i 0 ≤ 10 := fun i hi => by
  have hl : h < ti.length := by rw [hp.t]; exact hh
  rw [show ti.getD h [] = ti[h] by rw [List.getD_eq_getElem?_getD, List.getElem?_eq_getElem hl]; rfl]
  have hr := hp.tr _ (List.getElem_mem hl)
  rw [List.getD_eq_getElem?_getD, List.getElem?_eq_getElem (by omega)]
  exact hp.ti _ (List.getElem_mem hl) _ (List.getElem_mem _)
theorem new_ok (hp : PlanOk ls L H ti pr en) {h : Nat} (hh : h < H) {w : Wet} (hw : NowOk ls L h w) {r : List Int} (hr : r ∈ relN ls L) (ho : okW ls L ti h w r = true) : NowOk ls L (h + 1) (newW ls L ti pr h w r) := by
  have hb := rel_bd hp.ok L (by rw [hp.l]; exact Nat.le_refl _) r hr
  have he := earn_bd hp hh (r := ⟨r.getD 0 0, r.getD 1 0⟩) (getD_bd hb 0) (getD_bd hb 1)
  refine ⟨good_hour hp.ok hp.l hp.L2 (in_bd hp hh) hw.g ho, ?_, ?_, fun l hl => ?_⟩
  · have := hw.e
    unfold newW
    simp only at he ⊢
    omega
  · unfold newW
    simp only
    rw [List.length_append, hw.t]
    rfl
  · unfold newW at hl
    simp only at hl
    rcases List.mem_append.1 hl with hl | hl
    · exact hw.r l hl
    · rw [List.mem_singleton.1 hl]
      exact rel_len hp.ok L (by rw [hp.l]; exact Nat.le_refl _) r hr
theorem now_ok (hp : PlanOk ls L H ti pr en) : ∀ h, h ≤ H → ∀ w ∈ nowL ls L ti pr (relN ls L) h, NowOk ls L h w
  | 0, _, w, hw => by
    rw [nowL] at hw
    rw [List.mem_singleton.1 hw]
    exact ⟨good_start hp.ok hp.l, ⟨Int.le_refl _, by simp⟩, rfl, fun l h => by cases h⟩
  | h + 1, hh, w, hw => by
    rw [nowL] at hw
    rcases puts_mem hw with hw | hw
    · cases hw
    · unfold candL at hw
      obtain ⟨y, hy, hw⟩ := List.mem_flatMap.1 hw
      obtain ⟨r, hr, rfl⟩ := List.mem_map.1 hw
      obtain ⟨h1, h2⟩ := List.mem_filter.1 hr
      exact new_ok hp (by omega) (now_ok hp h (by omega) y hy) h1 h2
theorem next_ok (hp : PlanOk ls L H ti pr en) {h : Nat} (hh : h < H) {k j : Nat} (hk : k < (nowL ls L ti pr (relN ls L) h).length) : ∀ x ∈ nextP ls L ti pr h (relN ls L) (nowL ls L ti pr (relN ls L) h) k j, NowOk ls L (h + 1) x := fun x hx => by
  unfold nextP at hx
  rcases puts_mem hx with hx | hx
  · cases hx
  · rcases List.mem_append.1 hx with hx | hx
    · obtain ⟨y, hy, hx⟩ := List.mem_flatMap.1 hx
      unfold cand1 at hx
      obtain ⟨r, hr, rfl⟩ := List.mem_map.1 hx
      obtain ⟨h1, h2⟩ := List.mem_filter.1 hr
      exact new_ok hp hh (now_ok hp h (by omega) y (List.mem_of_mem_take hy)) h1 h2
    · unfold cand1 at hx
      obtain ⟨r, hr, rfl⟩ := List.mem_map.1 hx
      obtain ⟨h1, h2⟩ := List.mem_filter.1 hr
      refine new_ok hp hh (now_ok hp h (by omega) _ ?_) (List.mem_of_mem_take h1) h2
      rw [List.getD_eq_getElem?_getD, List.getElem?_eq_getElem hk]
      exact List.getElem_mem hk
theorem code_bd (hp : PlanOk ls L H ti pr en) {s : Stnd} (g : Good ls L s) : 0 ≤ codeS L s ∧ codeS L s ≤ 2000000 := by
  have q := good_bounds hp.ok hp.l g
  have h2 := hp.L2
  unfold codeS
  match L, h2 with
  | 0, _ => exact ⟨Int.le_refl _, by show (0 : Int) ≤ 2000000; decide⟩
  | 1, _ => simp [codeK, listOf]; omega
  | 2, _ => simp [codeK, listOf]; omega
theorem code_alike (hp : PlanOk ls L H ti pr en) {s s' : Stnd} (g : Good ls L s) (g' : Good ls L s') : codeS L s = codeS L s' ↔ s = s' := ⟨fun h => code_stand hp.ok hp.l hp.L2 g g' h, fun h => by rw [h]⟩
end
end Go.Proofs.Ytnhddmcdmcpkeaj
namespace Go.Proofs.Ytnhddmcdmcpkeaj
open Go.RowKit Go.Shelf

theorem flat4 : ∀ {cs : List (List Value)}, (∀ c ∈ cs, c.length = 4) → ∀ (k j : Nat) (c : List Value), cs[k]? = some c → j < 4 → cs.flatten[k * 4 + j]? = c[j]?
  | [], _, k, j, c, h, _ => by simp at h
  | d :: r, hl, 0, j, c, h, hj => by
    simp at h
    subst h
    rw [List.flatten_cons, Nat.zero_mul, Nat.zero_add, List.getElem?_append_left (by rw [hl d (List.mem_cons_self ..)]; exact hj)]
  | d :: r, hl, k + 1, j, c, h, hj => by
    have h4 := hl d (List.mem_cons_self ..)
    rw [List.flatten_cons, List.getElem?_append_right (by rw [h4]; omega), h4, show (k + 1) * 4 + j - 4 = k * 4 + j by omega]
    exact flat4 (fun c hc => hl c (List.mem_cons_of_mem _ hc)) k j c (by simpa using h) hj
theorem flat_set4 : ∀ {cs : List (List Value)}, (∀ c ∈ cs, c.length = 4) → ∀ (k : Nat) (a b c d : Value), k < cs.length → (((cs.flatten.set (k * 4) a).set (k * 4 + 1) b).set (k * 4 + 2) c).set (k * 4 + 3) d = (cs.set k [a, b, c, d]).flatten
  | [], _, k, _, _, _, _, h => by simp at h
  | x :: r, hl, 0, a, b, c, d, _ => by
    have h4 := hl x (List.mem_cons_self ..)
    match x, h4 with
    | [x0, x1, x2, x3], _ => simp
  | x :: r, hl, k + 1, a, b, c, d, h => by
    have h4 := hl x (List.mem_cons_self ..)
    have ih := flat_set4 (fun c hc => hl c (List.mem_cons_of_mem _ hc)) k a b c d (by simpa using h)
    rw [List.flatten_cons, List.set_append_right _ _ (by rw [h4]; omega), List.set_append_right _ _ (by rw [h4]; omega), List.set_append_right _ _ (by rw [h4]; omega), List.set_append_right _ _ (by rw [h4]; omega), h4, show (k + 1) * 4 - 4 = k * 4 by omega, show (k + 1) * 4 + 1 - 4 = k * 4 + 1 by omega, show (k + 1) * 4 + 2 - 4 = k * 4 + 2 by omega, show (k + 1) * 4 + 3 - 4 = k * 4 + 3 by omega, ih, List.set_cons_succ, List.flatten_cons]
/-- The k-th of a row of ways to stand: its four cells, and what they tell. -/
theorem WetsAt.cell {W : World} {B L : Nat} {v : Value} {xs : List Wet} (h : WetsAt W B v L xs) {k : Nat} {x : Wet} (hk : xs[k]? = some x) : ∃ (G cg : Nat) (al : Option Addr) (cl : Nat) (ac : Option Addr) (cc : Nat) (ar : Option Addr) (cr : Nat), v = .slice (some ⟨G, 0, none⟩) xs.length cg ∧ B ≤ G ∧
    (W.cell? ⟨G, k * 4, none⟩ = some (.slice al L cl) ∧ W.cell? ⟨G, k * 4 + 1, none⟩ = some (.slice ac L cc) ∧ W.cell? ⟨G, k * 4 + 2, none⟩ = some (.int .i64 x.e) ∧ W.cell? ⟨G, k * 4 + 3, none⟩ = some (.slice ar x.t.length cr)) ∧
    W.ownsRow 0 3 1 (.slice al L cl) L (ints (listOf x.s.l0 x.s.l1 L)) ∧ W.ownsRow 0 3 1 (.slice ac L cc) L (ints (listOf x.s.u0 x.s.u1 L)) ∧ StepsAt W 0 (.slice ar x.t.length cr) x.t ∧ (∃ cur, W.heap[G]? = some (.cells cur 93 (0, 0))) := by
  obtain ⟨cs, h1, h2, h3, h4⟩ := h
  have hlt : k < cs.length := by rw [h1]; exact (List.getElem?_eq_some_iff.1 hk).1
  have hc := List.getElem?_eq_getElem hlt
  obtain ⟨al, cl, ac, cc, ar, cr, e, g1, g2, g3⟩ := h4 k x _ hk hc
  have hn : 0 < xs.length := by rw [← h1]; omega
  obtain ⟨a, cg, rfl⟩ := own_slice h3
  rcases h3.2 with ⟨q1, q2⟩ | ⟨g, cap, cur, q1, q0, q2, _⟩
  · injection q1 with _ q _; omega
  · cases q1
    have at4 : ∀ j u, j < 4 → [Value.slice al L cl, .slice ac L cc, .int .i64 x.e, .slice ar x.t.length cr][j]? = some u → W.cell? ⟨g, k * 4 + j, none⟩ = some u := fun j u hj hu => (own_cell h3 (by rw [flat4 h2 k j _ hc hj, e]; exact hu)).1
    exact ⟨g, cg, al, cl, ac, cc, ar, cr, rfl, q0, ⟨at4 0 _ (by decide) rfl, at4 1 _ (by decide) rfl, at4 2 _ (by decide) rfl, at4 3 _ (by decide) rfl⟩, g1, g2, g3, ⟨cur, q2⟩⟩
theorem keep4 {W : World} {G : Nat} {cur : Array Value} (h : W.heap[G]? = some (.cells cur 93 (0, 0))) (i : Nat) (a b c d : Value) : KeepE 93 W ((((W.setCell ⟨G, i, none⟩ a).setCell ⟨G, i + 1, none⟩ b).setCell ⟨G, i + 2, none⟩ c).setCell ⟨G, i + 3, none⟩ d) :=
  (((keep_set h i a).trans (keep_set (set_any h i a) (i + 1) b)).trans (keep_set (set_any (set_any h i a) (i + 1) b) (i + 2) c)).trans (keep_set (set_any (set_any (set_any h i a) (i + 1) b) (i + 2) c) (i + 3) d)
/-- The k-th is laid anew. -/
theorem WetsAt.set {W : World} {B L n cg G k : Nat} {xs : List Wet} {w : Wet} {a b d : Value} (h : WetsAt W B (.slice (some ⟨G, 0, none⟩) n cg) L xs) (hn : xs.length = n) (hk : k < n) (hw : WetAt W L w [a, b, .int .i64 w.e, d]) :
    WetsAt ((((W.setCell ⟨G, k * 4, none⟩ a).setCell ⟨G, k * 4 + 1, none⟩ b).setCell ⟨G, k * 4 + 2, none⟩ (.int .i64 w.e)).setCell ⟨G, k * 4 + 3, none⟩ d) B (.slice (some ⟨G, 0, none⟩) n cg) L (xs.set k w) := by
  obtain ⟨cs, h1, h2, h3, h4⟩ := h
  rw [hn] at h3
  obtain ⟨cur, hcur⟩ : ∃ cur, W.heap[G]? = some (.cells cur 93 (0, 0)) := by
    rcases h3.2 with ⟨q1, _⟩ | ⟨g, cap, cur, q1, _, q2, _⟩
    · cases q1
    · cases q1; exact ⟨cur, q2⟩
  have hK := keep4 hcur (k * 4) a b (.int .i64 w.e) d
  refine ⟨cs.set k [a, b, .int .i64 w.e, d], by rw [List.length_set, List.length_set]; exact h1, fun c hc => ?_, ?_, fun j x c hx hc => ?_⟩
  · rcases List.mem_or_eq_of_mem_set hc with hc | hc
    · exact h2 c hc
    · rw [hc]; rfl
  · have h5 := own_row_set (own_row_set (own_row_set (own_row_set h3 (k * 4) a) (k * 4 + 1) b) (k * 4 + 2) (.int .i64 w.e)) (k * 4 + 3) d
    rw [flat_set4 h2 k a b _ d (by rw [h1, hn]; exact hk)] at h5
    rw [List.length_set, hn]
    exact h5
  · rw [List.getElem?_set] at hx hc
    by_cases e : k = j
    · subst e
      rw [if_pos rfl] at hx hc
      rw [if_pos (by rw [hn]; exact hk)] at hx
      rw [if_pos (by rw [h1, hn]; exact hk)] at hc
      cases hx
      cases hc
      exact hw.keep hK (by decide) (by decide)
    · rw [if_neg e] at hx hc
      exact (h4 j x c hx hc).keep hK (by decide) (by decide)
end Go.Proofs.Ytnhddmcdmcpkeaj
namespace Go.Proofs.Ytnhddmcdmcpkeaj
open Go.RowKit Go.Shelf

theorem put_len : ∀ (nx : List Wet) (w : Wet), (putW nx w).length ≤ nx.length + 1
  | [], w => by simp [putW]
  | x :: r, w => by
    unfold putW
    split
    · split <;> simp
    · have := put_len r w
      simp only [List.length_cons]
      omega
theorem puts_len : ∀ (cs nx : List Wet), (cs.foldl putW nx).length ≤ nx.length + cs.length
  | [], nx => by simp
  | c :: cs, nx => by
    have h1 := puts_len cs (putW nx c)
    have h2 := put_len nx c
    rw [List.foldl_cons, List.length_cons]
    omega
theorem flat_le {α β : Type} (f : α → List β) (n : Nat) (h : ∀ x, (f x).length ≤ n) : ∀ l : List α, (l.flatMap f).length ≤ l.length * n
  | [] => by simp
  | x :: l => by
    have h1 := flat_le f n h l
    have h2 := h x
    rw [List.flatMap_cons, List.length_append, List.length_cons, Nat.add_mul]
    omega
section
variable {ls : List LakeM} {L H : Nat} {ti : List (List Int)} {pr en : List Int} {all : List (List Int)}
theorem cand_len (h : Nat) (all : List (List Int)) (w : Wet) : (cand1 ls L ti pr h all w).length ≤ all.length := by
  unfold cand1
  rw [List.length_map]
  exact List.length_filter_le _ _
theorem now_len (ha : all.length ≤ 25) : ∀ h, (nowL ls L ti pr all h).length ≤ 25 ^ h
  | 0 => by rw [nowL]; simp
  | h + 1 => by
    rw [← next_all, Nat.pow_succ]
    have h0 := now_len ha h
    unfold nextP
    have h1 := puts_len (((nowL ls L ti pr all h).take (nowL ls L ti pr all h).length).flatMap (cand1 ls L ti pr h all) ++ cand1 ls L ti pr h (all.take 0) ((nowL ls L ti pr all h).getD (nowL ls L ti pr all h).length ⟨⟨0, 0, 0, 0⟩, 0, []⟩)) []
    have h2 := flat_le (cand1 ls L ti pr h all) all.length (cand_len h all) ((nowL ls L ti pr all h).take (nowL ls L ti pr all h).length)
    have h3 := Nat.le_trans (cand_len (ls := ls) (L := L) (ti := ti) (pr := pr) h (all.take 0) ((nowL ls L ti pr all h).getD (nowL ls L ti pr all h).length ⟨⟨0, 0, 0, 0⟩, 0, []⟩)) (show (all.take 0).length ≤ 0 by simp)
    rw [List.length_append] at h1
    rw [List.length_take, Nat.min_self] at h2
    have h4 : (nowL ls L ti pr all h).length * all.length ≤ 25 ^ h * 25 := Nat.mul_le_mul h0 ha
    simp only [List.length_nil, Nat.zero_add] at h1
    omega
theorem next_len (ha : all.length ≤ 25) {h k j : Nat} : (nextP ls L ti pr h all (nowL ls L ti pr all h) k j).length ≤ 25 ^ h * 25 + 25 := by
  unfold nextP
  have h0 := now_len (ls := ls) (L := L) (ti := ti) (pr := pr) ha h
  have h1 := puts_len (((nowL ls L ti pr all h).take k).flatMap (cand1 ls L ti pr h all) ++ cand1 ls L ti pr h (all.take j) ((nowL ls L ti pr all h).getD k ⟨⟨0, 0, 0, 0⟩, 0, []⟩)) []
  have h2 := flat_le (cand1 ls L ti pr h all) all.length (cand_len h all) ((nowL ls L ti pr all h).take k)
  have h3 := cand_len (ls := ls) (L := L) (ti := ti) (pr := pr) h (all.take j) ((nowL ls L ti pr all h).getD k ⟨⟨0, 0, 0, 0⟩, 0, []⟩)
  rw [List.length_append] at h1
  rw [List.length_take] at h2 h3
  have h4 : min k (nowL ls L ti pr all h).length * all.length ≤ 25 ^ h * 25 := Nat.mul_le_mul (by omega) ha
  simp only [List.length_nil, Nat.zero_add] at h1
  omega
theorem pow_small {h : Nat} (hh : h ≤ 8) : 25 ^ h ≤ 152587890625 := by
  have : 25 ^ h ≤ 25 ^ 8 := Nat.pow_le_pow_right (by omega) hh
  omega
end
/-- What is so while an hour is gone through: ways to stand, releases, what comes next (laid since the hour began, when B blocks were there), and its places. -/
structure HourI (L : Nat) (all : List (List Int)) (now : List Wet) (W : World) (B M : Nat) (nv av xv : Value) (nx : List Wet) (w : World) : Prop where
  nw : WetsAt w W.heap.size nv L now
  nwb : ∀ g, nv.ownBlock = some g → g < B
  al : StepsAt w 0 av all
  nxt : WetsAt w B xv L nx
  mp : ∃ es clock, w.heap[M]? = some (.map es clock) ∧ Placed L nx es.toList
  ap : WApart nx
  bel : Below W.heap.size W w
  bge : W.heap.size ≤ B
  mge : B ≤ M
/-- What lies in the row of ways to stand stays, where nothing but blocks from B on of that sort has changed. -/
theorem WetsAt.stays {W W' : World} {B0 B L : Nat} {v : Value} {xs : List Wet} (h : WetsAt W B0 v L xs) (hb : ∀ g, v.ownBlock = some g → g < B) (hB : Below B W W') (hk : KeepE 93 W W') : WetsAt W' B0 v L xs := by
  obtain ⟨cs, h1, h2, h3, h4⟩ := h
  exact ⟨cs, h1, h2, own_other h3 (fun k e => hB.block k (hb k e)), fun j x c hx hc => (h4 j x c hx hc).keep hk (by decide) (by decide)⟩
end Go.Proofs.Ytnhddmcdmcpkeaj
