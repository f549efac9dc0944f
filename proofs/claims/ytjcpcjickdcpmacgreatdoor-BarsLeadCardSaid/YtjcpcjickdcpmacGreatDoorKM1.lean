/- Plain facts: the search's counts are least counts. -/
import Derived.Test.YtjcpcjickdcpmacGreatDoorKBp0
import Derived.Test.YtjcpcjickdcpmacGreatDoorKBra
import Derived.Test.YtjcpcjickdcpmacGreatDoorKBrb
import Derived.Test.YtjcpcjickdcpmacGreatDoorKBr6
namespace Go.Proofs.YtjcpcjickdcpmacGreatDoor.Bar

/-- How far the k-th reached bus is. -/
def atK (s : Reach2) (k : Nat) : Int := s.1.getD (s.2.getD k 0).toNat 0
/-- The reached buses stand by how far they are; none is more than one hop farther than the i-th. -/
structure Lvl (s : Reach2) (i : Nat) : Prop where
  mono : ∀ j k, j ≤ k → k < s.2.length → atK s j ≤ atK s k
  near : i < s.2.length → ∀ k, k < s.2.length → atK s k ≤ atK s i + 1
theorem getD_app {l e : List Int} {k : Nat} (h : k < l.length) : (l ++ e).getD k 0 = l.getD k 0 := by
  rw [List.getD_eq_getElem?_getD, List.getElem?_append_left h, ← List.getD_eq_getElem?_getD]
theorem Lvl.visit {n : Nat} {links : List LinkM} {b : Int} {s : Reach2} {i : Nat} (h : Seen n links b s) (hl : Lvl s i) (hi : i < s.2.length) {u v : Nat} (hu : s.2.getD i 0 = (u : Int)) (hv : v < n) : Lvl (Bar.visit (u : Int) s (v : Int)) i ∧ (∀ k, k < s.2.length → atK (Bar.visit (u : Int) s (v : Int)) k = atK s k) := by
  unfold Bar.visit
  rw [Int.toNat_natCast, Int.toNat_natCast]
  split
  · next hc =>
    have hvl : v < s.1.length := by rw [h.good.len]; exact hv
    have hsame : ∀ k, k < s.2.length → atK (s.1.set v (s.1.getD u 0 + 1), s.2 ++ [(v : Int)]) k = atK s k := fun k hk => by
      obtain ⟨m0, m1⟩ := h.good.mem _ (getD_in hk).2
      unfold atK
      show (s.1.set v (s.1.getD u 0 + 1)).getD ((s.2 ++ [(v : Int)]).getD k 0).toNat 0 = _
      rw [getD_app hk, getD_set _ _ _ _ hvl, if_neg]
      intro e
      have hin := (h.inn v hv).2 (by
        have := (getD_in hk).2
        rw [show (v : Int) = s.2.getD k 0 by omega]
        exact this)
      exact hin hc
    have hlast : atK (s.1.set v (s.1.getD u 0 + 1), s.2 ++ [(v : Int)]) s.2.length = s.1.getD u 0 + 1 := by
      unfold atK
      show (s.1.set v (s.1.getD u 0 + 1)).getD ((s.2 ++ [(v : Int)]).getD s.2.length 0).toNat 0 = _
      have hlv : (s.2 ++ [(v : Int)]).getD s.2.length 0 = (v : Int) := by
        rw [List.getD_eq_getElem?_getD, List.getElem?_append_right (Nat.le_refl _), Nat.sub_self]
        rfl
      rw [hlv, Int.toNat_natCast, getD_set _ _ _ _ hvl, if_pos rfl]
    have hui : atK s i = s.1.getD u 0 := by unfold atK; rw [hu, Int.toNat_natCast]
    have hnear := hl.near hi
    refine ⟨⟨fun j k hjk hk => ?_, fun _ k hk => ?_⟩, hsame⟩
    · rw [List.length_append] at hk
      simp only [List.length_cons, List.length_nil] at hk
      by_cases e : k = s.2.length
      · by_cases e2 : j = s.2.length
        · rw [e, e2]; exact Int.le_refl _
        · rw [e, hlast, hsame j (by omega), ← hui]
          exact hnear j (by omega)
      · rw [hsame k (by omega), hsame j (by omega)]
        exact hl.mono j k hjk (by omega)
    · rw [List.length_append] at hk
      simp only [List.length_cons, List.length_nil] at hk
      rw [hsame i hi]
      by_cases e : k = s.2.length
      · rw [e, hlast, hui]; exact Int.le_refl _
      · rw [hsame k (by omega)]
        exact hnear k (by omega)
  · exact ⟨hl, fun _ _ => rfl⟩
theorem Lvl.fold {n : Nat} {links : List LinkM} {b : Int} (he : Ends n links) {i : Nat} {u : Nat} (hu : u < n) : ∀ (xs : List (LinkM × Int)) {s : Reach2}, Seen n links b s → Lvl s i → i < s.2.length → s.2.getD i 0 = (u : Int) → (∀ x ∈ xs, Adj links u x.2 ∧ 0 ≤ x.2 ∧ x.2 < n) →
    Lvl (xs.foldl (fun s x => Bar.visit u s x.2) s) i ∧ (∀ k, k < s.2.length → atK (xs.foldl (fun s x => Bar.visit u s x.2) s) k = atK s k)
  | [], _, _, hl, _, _, _ => ⟨hl, fun _ _ => rfl⟩
  | x :: r, s, h, hl, hi, hui, hx => by
    obtain ⟨ha, h0, h1⟩ := hx x (by simp)
    obtain ⟨v, hv⟩ := Int.eq_ofNat_of_zero_le h0
    have hvn : v < n := by omega
    rw [List.foldl_cons, hv]
    have hum : (u : Int) ∈ s.2 := by rw [← hui]; exact (getD_in hi).2
    have hs := h.visit hu hvn hum (by rw [← hv]; exact ha)
    obtain ⟨l1, l2⟩ := hl.visit h hi hui hvn
    obtain ⟨e, hp⟩ := visit_prefix (u : Int) s (v : Int)
    have hi2 : i < (Bar.visit (u : Int) s (v : Int)).2.length := by rw [hp, List.length_append]; omega
    obtain ⟨i1, i2⟩ := Lvl.fold he hu r hs l1 hi2 (by rw [hp, getD_app hi]; exact hui) (fun y hy => hx y (by simp [hy]))
    exact ⟨i1, fun k hk => (i2 k (by rw [hp, List.length_append]; omega)).trans (l2 k hk)⟩
/-- Next to the first i, none is farther by more than one hop. -/
def StepTo (links : List LinkM) (s : Reach2) (i : Nat) : Prop := ∀ j, j < i → j < s.2.length → ∀ v, Adj links (s.2.getD j 0) v → s.1.getD v.toNat 0 ≤ atK s j + 1
theorem bfs_step {n : Nat} {links : List LinkM} {b : Int} (he : Ends n links) : ∀ (f i : Nat) (s : Reach2), Seen n links b s → DoneTo links s i → Lvl s i → StepTo links s i → f + i = n + 1 → StepTo links (bfs links f i s) (n + 1)
  | 0, i, s, _, _, _, hst, hf => by rw [show n + 1 = i by omega]; exact hst
  | f + 1, i, s, h, hd, hl, hst, hf => by
    rw [bfs]
    split
    · next hlt =>
      obtain ⟨m0, m1⟩ := h.good.mem _ (getD_in hlt).2
      obtain ⟨u, hu⟩ := Int.eq_ofNat_of_zero_le m0
      have hun : u < n := by omega
      have hum : (u : Int) ∈ s.2 := by rw [← hu]; exact (getD_in hlt).2
      have hx : ∀ x ∈ onw links u, Adj links u x.2 ∧ 0 ≤ x.2 ∧ x.2 < n := fun x hx => ⟨⟨x.1, (onw_mem hx).1, (onw_mem hx).2⟩, onw_ends he x hx⟩
      obtain ⟨h1, h2⟩ := Seen.fold he hun (onw links u) h hum hx
      obtain ⟨l1, l2⟩ := Lvl.fold he hun (onw links u) h hl hlt hu hx
      obtain ⟨ext, hp⟩ := fold_pre (u : Int) (onw links u) s
      obtain ⟨t, ht⟩ : ∃ t, t = (onw links u).foldl (fun s x => Bar.visit u s x.2) s := ⟨_, rfl⟩
      have hrt : roundB links (s.2.getD i 0) s = t := by rw [hu, ht]; rfl
      rw [← ht] at h1 h2 l1 l2 hp
      rw [hrt]
      have hlen : s.2.length ≤ t.2.length := by rw [hp, List.length_append]; omega
      have hg : ∀ j, j < s.2.length → t.2.getD j 0 = s.2.getD j 0 := fun j hj => by rw [hp, getD_app hj]
      have hdn : DoneTo links t (i + 1) := fun j hj hjl v hv => by
        by_cases e : j = i
        · subst e
          rw [hg _ hlt, hu] at hv
          obtain ⟨l, hl1, hn⟩ := hv
          exact h2 (l, v) (mem_onw hl1 hn)
        · rw [hg j (by omega)] at hv
          rw [hp]
          exact List.mem_append_left _ (hd j (by omega) (by omega) v hv)
      refine bfs_step he f (i + 1) t h1 hdn ⟨l1.mono, fun hi1 k hk => ?_⟩ ?_ (by omega)
      · have a1 := l1.near (by omega) k hk
        have a2 := l1.mono i (i + 1) (by omega) hi1
        omega
      · intro j hj hjl v hv
        have hvt := hdn j hj hjl v hv
        obtain ⟨k, hk, hke⟩ := List.getElem_of_mem hvt
        have hkd : t.2.getD k 0 = v := by rw [List.getD_eq_getElem?_getD, List.getElem?_eq_getElem hk, hke]; rfl
        by_cases e : j = i
        · subst e
          have := l1.near (by omega) k hk
          unfold atK at this ⊢
          rw [hkd] at this
          exact this
        · have hj2 : j < s.2.length := by omega
          rw [hg j hj2] at hv
          have hvs := hd j (by omega) hj2 v hv
          obtain ⟨k2, hk2, hke2⟩ := List.getElem_of_mem hvs
          have hkd2 : s.2.getD k2 0 = v := by rw [List.getD_eq_getElem?_getD, List.getElem?_eq_getElem hk2, hke2]; rfl
          have a1 := hst j (by omega) hj2 v hv
          have a2 := l2 k2 hk2
          rw [l2 j hj2]
          unfold atK at a2
          rw [hg k2 hk2, hkd2] at a2
          rw [a2]
          exact a1
    · next hlt => exact fun j _ hj v hv => hst j (by omega) hj v hv
/-- Two buses next to each other differ by one hop at most. -/
theorem far_near {n : Nat} {links : List LinkM} (he : Ends n links) {b : Nat} (hb : b < n) {u v : Nat} (hu : u < n) (hju : (farL n links b).getD u 0 ≠ -1) (ha : Adj links (u : Int) (v : Int)) : (farL n links b).getD v 0 ≤ (farL n links b).getD u 0 + 1 := by
  have hstart : Lvl (start n (b : Int)) 0 := ⟨fun j k hjk hk => by
    have hk0 : k = 0 := by simp [Bar.start] at hk; omega
    have hj0 : j = 0 := by omega
    rw [hk0, hj0]; exact Int.le_refl _, fun _ k hk => by
    have hk0 : k = 0 := by simp [Bar.start] at hk; omega
    rw [hk0]; omega⟩
  have hs := bfs_seen he (n + 1) 0 _ (Seen.start (links := links) hb) (fun j hj => by omega) rfl
  have hst := bfs_step he (n + 1) 0 _ (Seen.start (links := links) hb) (fun j hj => by omega) hstart (fun j hj => by omega) rfl
  have hm := (hs.1.inn u hu).1 hju
  obtain ⟨k, hk, hke⟩ := List.getElem_of_mem hm
  have hkd : (bfs links (n + 1) 0 (start n (b : Int))).2.getD k 0 = (u : Int) := by rw [List.getD_eq_getElem?_getD, List.getElem?_eq_getElem hk, hke]; rfl
  have := hst k (by have := hs.1.good.le; omega) hk (v : Int) (by rw [hkd]; exact ha)
  unfold atK at this
  rw [hkd, Int.toNat_natCast, Int.toNat_natCast] at this
  exact this
end Go.Proofs.YtjcpcjickdcpmacGreatDoor.Bar

/- Plain facts: the document's counts of hops are the search's. -/
namespace Go.Proofs.YtjcpcjickdcpmacGreatDoor.Bar

theorem visit_keep (u v : Int) (s : Reach2) (j : Nat) (h : s.1.getD j 0 ≠ -1) : (Bar.visit u s v).1.getD j 0 = s.1.getD j 0 := by
  unfold Bar.visit
  split
  · next hc =>
    have hne : v.toNat ≠ j := fun e => h (by rw [← e]; exact hc)
    show (s.1.set v.toNat (s.1.getD u.toNat 0 + 1)).getD j 0 = _
    rw [List.getD_eq_getElem?_getD, List.getElem?_set_ne hne, ← List.getD_eq_getElem?_getD]
  · rfl
theorem fold_keep (u : Int) (j : Nat) : ∀ (xs : List (LinkM × Int)) (s : Reach2), s.1.getD j 0 ≠ -1 → (xs.foldl (fun s x => Bar.visit u s x.2) s).1.getD j 0 = s.1.getD j 0
  | [], _, _ => rfl
  | x :: r, s, h => by
    have h1 := visit_keep u x.2 s j h
    rw [List.foldl_cons, fold_keep u j r _ (by rw [h1]; exact h), h1]
theorem bfs_keep {links : List LinkM} : ∀ (f i : Nat) (s : Reach2) (j : Nat), s.1.getD j 0 ≠ -1 → (bfs links f i s).1.getD j 0 = s.1.getD j 0
  | 0, _, _, _, _ => rfl
  | f + 1, i, s, j, h => by
    rw [bfs]
    split
    · have h1 := fold_keep (s.2.getD i 0) j (onw links (s.2.getD i 0)) s h
      rw [bfs_keep f (i + 1) _ j (by rw [roundB, h1]; exact h), roundB, h1]
    · rfl
end Go.Proofs.YtjcpcjickdcpmacGreatDoor.Bar

/- Plain facts: the way by the search's counts. -/
namespace Go.Proofs.YtjcpcjickdcpmacGreatDoor.Bar

theorem far_self {n : Nat} (links : List LinkM) {b : Nat} (hb : b < n) : (farL n links b).getD b 0 = 0 := by
  have h1 : (start n (b : Int)).1.getD b 0 = 0 := by
    show ((List.replicate n (-1 : Int)).set (b : Int).toNat 0).getD b 0 = 0
    rw [Int.toNat_natCast, getD_set _ _ _ _ (by simpa using hb), if_pos rfl]
  show (bfs links (n + 1) 0 (start n (b : Int))).1.getD b 0 = 0
  rw [bfs_keep (n + 1) 0 _ b (by rw [h1]; decide), h1]
/-- The first link that leads on to a bus that is nearer by one hop. -/
def hopOn (links : List LinkM) (D : List Int) (u : Int) : Option (LinkM × Int) := (onw links u).find? (fun x => D.getD x.2.toNat 0 == D.getD u.toNat 0 - 1)
/-- The way: so many hops from a bus on. -/
def wayL (links : List LinkM) (D : List Int) : Nat → Int → List LinkM
  | 0, _ => []
  | k + 1, u => match hopOn links D u with
    | some x => x.1 :: wayL links D k x.2
    | none => []
theorem wayL_step {links : List LinkM} {D : List Int} {u : Int} {x : LinkM × Int} (h : hopOn links D u = some x) (k : Nat) : wayL links D (k + 1) u = x.1 :: wayL links D k x.2 := by rw [wayL, h]
theorem hopOn_facts {links : List LinkM} {D : List Int} {u : Int} {x : LinkM × Int} (h : hopOn links D u = some x) : x ∈ onw links u ∧ D.getD x.2.toNat 0 = D.getD u.toNat 0 - 1 := by
  unfold hopOn at h
  refine ⟨List.mem_of_find?_eq_some h, ?_⟩
  have := List.find?_some h
  simpa using this
/-- From each bus that is reached, the last one aside, a hop leads on. -/
theorem hopOn_some {n : Nat} {links : List LinkM} (he : Ends n links) {b : Nat} (hb : b < n) {u : Nat} (hu : u < n) (hub : u ≠ b) (hd : (farL n links b).getD u 0 ≠ -1) :
    ∃ (l : LinkM) (v : Nat), hopOn links (farL n links b) (u : Int) = some (l, (v : Int)) ∧ l ∈ links ∧ nextOf l (u : Int) = some (v : Int) ∧ v < n ∧ (farL n links b).getD v 0 ≠ -1 ∧ (farL n links b).getD u 0 = (farL n links b).getD v 0 + 1 := by
  obtain ⟨f1, f2, f3⟩ := far_spec he hb
  rcases f3 u hu hd with ⟨h1, _⟩ | ⟨v, hv, ha, h2, h3⟩
  · omega
  · obtain ⟨l, hl, hn⟩ := ha.symm
    have hin := mem_onw hl hn
    cases hf : hopOn links (farL n links b) (u : Int) with
    | none =>
      unfold hopOn at hf
      have := List.find?_eq_none.1 hf _ hin
      simp only [Int.toNat_natCast, beq_iff_eq] at this
      omega
    | some x =>
      obtain ⟨hm, hx⟩ := hopOn_facts hf
      obtain ⟨r0, r1⟩ := onw_ends he x hm
      obtain ⟨v', hv'⟩ := Int.eq_ofNat_of_zero_le r0
      obtain ⟨x1, x2⟩ := x
      simp only at hv'
      subst hv'
      obtain ⟨m1, m2⟩ := onw_mem hm
      simp only [Int.toNat_natCast] at hx
      have h0 : (farL n links b).getD v' 0 ≠ -1 := (f1 v' (by simp only at r1; omega)).2 (((f1 u hu).1 hd).step ⟨x1, m1, m2⟩)
      exact ⟨x1, v', rfl, m1, m2, by simp only at r1; omega, h0, by omega⟩
/-- Nought hops away is the bus itself. -/
theorem far_zero {n : Nat} {links : List LinkM} (he : Ends n links) {b : Nat} (hb : b < n) {u : Nat} (hu : u < n) (hd : (farL n links b).getD u 0 = 0) : u = b := by
  obtain ⟨_, f2, f3⟩ := far_spec he hb
  rcases f3 u hu (by omega) with ⟨h1, _⟩ | ⟨v, hv, _, h2, h3⟩
  · omega
  · have := f2 v hv
    omega
/-- What a hop is looked for by. -/
def isHop (D : List Int) (a : Int) (x : LinkM × Int) : Bool := D.getD x.2.toNat 0 == D.getD a.toNat 0 - 1
theorem linksN_next {ls : List LineM} {out : List Bool} {k : Nat} {t : LineM} (h : ls[k]? = some t) : linksN ls out (k + 1) = if out.getD k false then linksN ls out k else linksN ls out k ++ [⟨false, (k : Int), t.frm, t.to⟩] := by rw [linksN, h]
theorem linksT_next {ts : List TieM} {k : Nat} {t : TieM} (h : ts[k]? = some t) : linksT ts (k + 1) = if t.closed then linksT ts k ++ [⟨true, (k : Int), t.frm, t.to⟩] else linksT ts k := by rw [linksT, h]
end Go.Proofs.YtjcpcjickdcpmacGreatDoor.Bar

/- The way: what it is, and the hops at work. -/
namespace Go.Proofs.YtjcpcjickdcpmacGreatDoor.Bar
open Go.RowKit Go.Shelf Doc

def hopCells (x : LinkM) : List Value := [.bool x.tie, .int .i64 x.no]
theorem hop_snoc (l : List LinkM) (x : LinkM) : (l ++ [x]).flatMap hopCells = l.flatMap hopCells ++ [.bool x.tie, .int .i64 x.no] := by
  simp [List.flatMap_append, hopCells]
theorem hop_one {c : Bool} {x : Int} : ∀ u ∈ [Value.bool c, .int .i64 x], u.oneCell' = true := by
  intro u hu; simp at hu; rcases hu with rfl | rfl <;> rfl
theorem Tryz.info45 : (Tryz.prog.info? 45).map (fun i => (i.zero, i.size, i.bytes)) = some (some (.agg #[.bool false, .int .i64 0]), 2, 16) := by kernel_rfl
theorem Tryz.underlying41 : Tryz.prog.underlying 41 = some (.slice 45) := by kernel_rfl
theorem wayL_len (links : List LinkM) (D : List Int) : ∀ (k : Nat) (u : Int), (wayL links D k u).length ≤ k
  | 0, _ => Nat.le_refl _
  | k + 1, u => by
    rw [wayL]
    split
    · next x _ => have := wayL_len links D k x.2; simp; omega
    · simp
theorem service_ends {N : NetM} (he : EndsM N) (out : List Bool) : Ends N.buses.length (serviceL N out) := fun l hl => by
  rcases List.mem_append.1 hl with hl | hl
  · exact linksN_ends he out _ l hl
  · exact linksT_ends he _ l hl
/-- What the way is: hops, or a fault. -/
def WayIs (N : NetM) (out : List Bool) (a b : Int) (l : List LinkM) (code : Int) : Prop :=
  (¬ MayM N ∧ l = [] ∧ code = 14) ∨ (MayM N ∧ out.length ≠ N.lines.length ∧ l = [] ∧ code = 2) ∨
  (MayM N ∧ out.length = N.lines.length ∧ ¬ (0 ≤ a ∧ a < N.buses.length ∧ 0 ≤ b ∧ b < N.buses.length) ∧ l = [] ∧ code = 4) ∨
  (MayM N ∧ out.length = N.lines.length ∧ ∃ x y : Nat, a = x ∧ b = y ∧ x < N.buses.length ∧ y < N.buses.length ∧ (farL N.buses.length (serviceL N out) y).getD x 0 = -1 ∧ l = [] ∧ code = 10) ∨
  (MayM N ∧ out.length = N.lines.length ∧ ∃ x y : Nat, a = x ∧ b = y ∧ x < N.buses.length ∧ y < N.buses.length ∧ (farL N.buses.length (serviceL N out) y).getD x 0 ≠ -1 ∧ l = wayL (serviceL N out) (farL N.buses.length (serviceL N out) y) ((farL N.buses.length (serviceL N out) y).getD x 0).toNat x ∧ code = 0)
theorem wayIs_some (N : NetM) (out : List Bool) (a b : Int) : ∃ l code, WayIs N out a b l code := by
  by_cases h1 : MayM N
  · by_cases h2 : out.length = N.lines.length
    · by_cases h3 : 0 ≤ a ∧ a < N.buses.length ∧ 0 ≤ b ∧ b < N.buses.length
      · obtain ⟨x, hx⟩ := Int.eq_ofNat_of_zero_le h3.1
        obtain ⟨y, hy⟩ := Int.eq_ofNat_of_zero_le h3.2.2.1
        by_cases h4 : (farL N.buses.length (serviceL N out) y).getD x 0 = -1
        · exact ⟨_, _, .inr (.inr (.inr (.inl ⟨h1, h2, x, y, hx, hy, by omega, by omega, h4, rfl, rfl⟩)))⟩
        · exact ⟨_, _, .inr (.inr (.inr (.inr ⟨h1, h2, x, y, hx, hy, by omega, by omega, h4, rfl, rfl⟩)))⟩
      · exact ⟨_, _, .inr (.inr (.inl ⟨h1, h2, h3, rfl, rfl⟩))⟩
    · exact ⟨_, _, .inr (.inl ⟨h1, h2, rfl, rfl⟩)⟩
  · exact ⟨_, _, .inl ⟨h1, rfl, rfl⟩⟩
theorem WayIs.len {N : NetM} {out : List Bool} {a b : Int} {l : List LinkM} {code : Int} (h : WayIs N out a b l code) : l.length ≤ 1000 := by
  rcases h with ⟨_, rfl, _⟩ | ⟨_, _, rfl, _⟩ | ⟨_, _, _, rfl, _⟩ | ⟨_, _, _, _, _, _, _, _, _, rfl, _⟩ | ⟨hm, _, x, y, _, _, hx, hy, hd, rfl, _⟩
  · exact Nat.zero_le _
  · exact Nat.zero_le _
  · exact Nat.zero_le _
  · exact Nat.zero_le _
  · have h1 := wayL_len (serviceL N out) (farL N.buses.length (serviceL N out) y) ((farL N.buses.length (serviceL N out) y).getD x 0).toNat x
    have h2 := (far_spec (service_ends (MayM.ends hm) out) hy).2.1 x hx
    have h3 := hm.fits.1
    omega
/-- An answer: hops and a fault's number. -/
def AnswersH (l : List LinkM) (code : Int) (w : World) (e : Ending) (w' : World) : Prop := ∃ a c, e = .returned (.tuple #[.slice a l.length c, .int .i64 code]) ∧ RowAt w' (.slice a l.length c) l.length 2 (l.flatMap hopCells) ∧ Below w.heap.size w w'
theorem answersH_nil {code : Int} {w w' : World} (hb : Below w.heap.size w w') : AnswersH [] code w (.returned (.tuple #[.slice none 0 0, .int .i64 code])) w' := ⟨none, 0, rfl, ⟨rfl, none, 0, rfl, fun j u h => by simp at h⟩, hb⟩
end Go.Proofs.YtjcpcjickdcpmacGreatDoor.Bar

/- Plain facts: a line splits its island just if the search without it does not reach its other end; so the document's bridges are the program's. -/
namespace Go.Proofs.YtjcpcjickdcpmacGreatDoor.Bar

theorem cntR_mono (R : Nat → Nat) (a : Nat) : ∀ m, cntR R a ≤ cntR R (a + m)
  | 0 => Nat.le_refl _
  | m + 1 => by
    have := cntR_mono R a m
    rw [← Nat.add_assoc, cntR]
    split <;> omega
theorem cntR_lt {R : Nat → Nat} {a b : Nat} (ha : R a = a) (h : a < b) : cntR R a < cntR R b := by
  have h1 := cntR_mono R (a + 1) (b - (a + 1))
  rw [show a + 1 + (b - (a + 1)) = b by omega, cntR, if_pos ha] at h1
  omega
/-- Two buses bear one number just if they are joined. -/
theorem groups_iff {n : Nat} {links : List LinkM} (he : Ends n links) {a b : Nat} (ha : a < n) (hb : b < n) : (groupsL n links).getD a 0 = (groupsL n links).getD b 0 ↔ Conn links (a : Int) (b : Int) := by
  obtain ⟨R, hR⟩ := roots_exist links
  have h1 := (groups_spec hR he n (Nat.le_refl _)).2
  have ea : (groupsL n links).getD a 0 = (cntR R (R a) : Int) := by
    have := h1 a ha
    rwa [if_pos (Nat.lt_of_le_of_lt (hR a).1 ha)] at this
  have eb : (groupsL n links).getD b 0 = (cntR R (R b) : Int) := by
    have := h1 b hb
    rwa [if_pos (Nat.lt_of_le_of_lt (hR b).1 hb)] at this
  rw [ea, eb, root_iff hR]
  constructor
  · intro h
    rcases Nat.lt_trichotomy (R a) (R b) with hl | hl | hl
    · have := cntR_lt (root_root hR a) hl
      omega
    · exact hl
    · have := cntR_lt (root_root hR b) hl
      omega
  · intro h
    rw [h]
/-- The search misses a bus just if its number is another one. -/
theorem far_groups {n : Nat} {links : List LinkM} (he : Ends n links) {a b : Nat} (ha : a < n) (hb : b < n) : (farL n links a).getD b 0 = -1 ↔ (groupsL n links).getD a 0 ≠ (groupsL n links).getD b 0 := by
  have h1 := (far_spec he ha).1 b hb
  rw [Ne, groups_iff he ha hb, ← h1]
  constructor
  · intro h h2; exact h2 h
  · intro h
    exact Classical.byContradiction h
end Go.Proofs.YtjcpcjickdcpmacGreatDoor.Bar

/- Plain facts: to close a tie makes one node of two, or changes nothing. -/
namespace Go.Proofs.YtjcpcjickdcpmacGreatDoor.Bar

theorem linksT_mem (ts : List TieM) : ∀ (k : Nat) (l : LinkM), l ∈ linksT ts k ↔ ∃ (i : Nat) (t : TieM), i < k ∧ ts[i]? = some t ∧ t.closed = true ∧ l = ⟨true, (i : Int), t.frm, t.to⟩
  | 0, l => by
    constructor
    · intro h; cases h
    · rintro ⟨i, t, h, _⟩; omega
  | k + 1, l => by
    have ih := linksT_mem ts k l
    rw [linksT]
    constructor
    · intro h
      split at h
      · next t ht =>
        split at h
        · next hc =>
          rcases List.mem_append.1 h with h | h
          · obtain ⟨i, t', h1, h2⟩ := ih.1 h
            exact ⟨i, t', by omega, h2⟩
          · exact ⟨k, t, by omega, ht, hc, List.mem_singleton.1 h⟩
        · obtain ⟨i, t', h1, h2⟩ := ih.1 h
          exact ⟨i, t', by omega, h2⟩
      · obtain ⟨i, t', h1, h2⟩ := ih.1 h
        exact ⟨i, t', by omega, h2⟩
    · rintro ⟨i, t, h1, h2, h3, h4⟩
      by_cases e : i = k
      · subst e
        rw [h2]
        show l ∈ if t.closed then linksT ts i ++ [⟨true, (i : Int), t.frm, t.to⟩] else linksT ts i
        rw [if_pos h3, h4]
        exact List.mem_append_right _ (by simp)
      · have h5 := ih.2 ⟨i, t, by omega, h2, h3, h4⟩
        split
        · split
          · exact List.mem_append_left _ h5
          · exact h5
        · exact h5
end Go.Proofs.YtjcpcjickdcpmacGreatDoor.Bar

/- Plain facts: a way leads, hop by hop; the way back is as long. -/
namespace Go.Proofs.YtjcpcjickdcpmacGreatDoor.Bar

/-- So many hops lead from one bus to another. -/
def WalkN (links : List LinkM) : Nat → Int → Int → Prop
  | 0, a, b => a = b
  | k + 1, a, b => ∃ v, Adj links a v ∧ WalkN links k v b
theorem walk_snoc {links : List LinkM} {c : Int} : ∀ (k : Nat) (a b : Int), WalkN links k a b → Adj links b c → WalkN links (k + 1) a c
  | 0, a, b, h, hc => ⟨c, by rw [show a = b from h]; exact hc, rfl⟩
  | k + 1, _, b, ⟨v, hv, h⟩, hc => ⟨v, hv, walk_snoc k v b h hc⟩
theorem walk_rev {links : List LinkM} : ∀ (k : Nat) (a b : Int), WalkN links k a b → WalkN links k b a
  | 0, _, _, h => Eq.symm h
  | k + 1, _, b, ⟨v, hv, h⟩ => walk_snoc k b v (walk_rev k v b h) hv.symm
theorem far_le {n : Nat} {links : List LinkM} (he : Ends n links) {b : Nat} (hb : b < n) : ∀ (k u v : Nat), u < n → (farL n links b).getD u 0 ≠ -1 → WalkN links k u v → (farL n links b).getD v 0 ≠ -1 ∧ (farL n links b).getD v 0 ≤ (farL n links b).getD u 0 + k
  | 0, u, v, _, hd, h => by
    have : u = v := by have h2 : (u : Int) = v := h; omega
    subst this
    exact ⟨hd, by omega⟩
  | k + 1, u, v, hu, hd, ⟨x, hx, h⟩ => by
    obtain ⟨x0, x1⟩ := adj_range he hx
    obtain ⟨xN, rfl⟩ := Int.eq_ofNat_of_zero_le x0
    have h1 := far_near he hb hu hd hx
    have h2 : (farL n links b).getD xN 0 ≠ -1 := ((far_spec he hb).1 xN (by omega)).2 ((((far_spec he hb).1 u hu).1 hd).step hx)
    obtain ⟨h3, h4⟩ := far_le he hb k xN v (by omega) h2 h
    exact ⟨h3, by omega⟩
theorem far_walk {n : Nat} {links : List LinkM} (he : Ends n links) {b : Nat} (hb : b < n) : ∀ (k v : Nat), v < n → (farL n links b).getD v 0 = (k : Int) → WalkN links k v b
  | 0, v, hv, h => by rw [far_zero he hb hv h]; rfl
  | k + 1, v, hv, h => by
    have hne : v ≠ b := fun e => by rw [e, far_self links hb] at h; omega
    obtain ⟨l, u, _, hl, hn, hu, hd, hs⟩ := hopOn_some he hb hv hne (by omega)
    exact ⟨u, ⟨l, hl, hn⟩, far_walk he hb k u hu (by omega)⟩
/-- The way back is as long. -/
theorem far_back {n : Nat} {links : List LinkM} (he : Ends n links) {a b : Nat} (ha : a < n) (hb : b < n) (h : (farL n links b).getD a 0 ≠ -1) : (farL n links a).getD b 0 = (farL n links b).getD a 0 := by
  have one : ∀ {a b : Nat}, a < n → b < n → (farL n links b).getD a 0 ≠ -1 → (farL n links a).getD b 0 ≠ -1 ∧ (farL n links a).getD b 0 ≤ (farL n links b).getD a 0 := fun {a b} ha hb h => by
    obtain ⟨k, hk⟩ : ∃ k : Nat, (farL n links b).getD a 0 = (k : Int) := ⟨((farL n links b).getD a 0).toNat, by have := (far_spec he hb).2.1 a ha; omega⟩
    have h1 := far_le he ha k a b ha (by rw [far_self links ha]; decide) (far_walk he hb k a ha hk)
    rw [far_self links ha, Int.zero_add] at h1
    exact ⟨h1.1, by rw [hk]; exact h1.2⟩
  have h1 := one ha hb h
  have h2 := one hb ha h1.1
  exact Int.le_antisymm h1.2 h2.2
theorem wayL_length {n : Nat} {links : List LinkM} (he : Ends n links) {b : Nat} (hb : b < n) : ∀ (k v : Nat), v < n → (farL n links b).getD v 0 = (k : Int) → (wayL links (farL n links b) k (v : Int)).length = k
  | 0, _, _, _ => rfl
  | k + 1, v, hv, h => by
    have hne : v ≠ b := fun e => by rw [e, far_self links hb] at h; omega
    obtain ⟨l, u, ho, hl, hn, hu, hd, hs⟩ := hopOn_some he hb hv hne (by omega)
    rw [wayL_step ho, List.length_cons, wayL_length he hb k u hu (by omega)]
theorem linksN_mem (ls : List LineM) (out : List Bool) : ∀ (k : Nat) (l : LinkM), l ∈ linksN ls out k → ∃ (i : Nat) (t : LineM), i < k ∧ ls[i]? = some t ∧ out.getD i false = false ∧ l = ⟨false, (i : Int), t.frm, t.to⟩
  | 0, _, h => by cases h
  | k + 1, l, h => by
    rw [linksN] at h
    split at h
    · next t ht =>
      split at h
      · obtain ⟨i, t', h1, h2⟩ := linksN_mem ls out k l h
        exact ⟨i, t', by omega, h2⟩
      · next ho =>
        rcases List.mem_append.1 h with h | h
        · obtain ⟨i, t', h1, h2⟩ := linksN_mem ls out k l h
          exact ⟨i, t', by omega, h2⟩
        · exact ⟨k, t, by omega, ht, by simpa using ho, List.mem_singleton.1 h⟩
    · obtain ⟨i, t', h1, h2⟩ := linksN_mem ls out k l h
      exact ⟨i, t', by omega, h2⟩
/-- A link in service: a line that is in, or a tie that is closed. -/
theorem service_mem {N : NetM} {out : List Bool} {l : LinkM} (h : l ∈ serviceL N out) : (∃ (i : Nat) (t : LineM), N.lines[i]? = some t ∧ out.getD i false = false ∧ l = ⟨false, (i : Int), t.frm, t.to⟩) ∨ (∃ (i : Nat) (t : TieM), N.ties[i]? = some t ∧ t.closed = true ∧ l = ⟨true, (i : Int), t.frm, t.to⟩) := by
  rcases List.mem_append.1 h with h | h
  · obtain ⟨i, t, _, h2, h3, h4⟩ := linksN_mem _ _ _ _ h
    exact .inl ⟨i, t, h2, h3, h4⟩
  · obtain ⟨i, t, _, h2, h3, h4⟩ := (linksT_mem _ _ _).1 h
    exact .inr ⟨i, t, h2, h3, h4⟩
/-- One hop of the way: which link, and where it leads. -/
theorem way_hop {n : Nat} {links : List LinkM} (he : Ends n links) {b : Nat} (hb : b < n) {W : List LinkM} {i k u : Nat} (hu : u < n) (hk : (farL n links b).getD u 0 = ((k + 1 : Nat) : Int)) (hW : W.drop i = wayL links (farL n links b) (k + 1) (u : Int)) :
    ∃ (l : LinkM) (v : Nat), W[i]? = some l ∧ l ∈ links ∧ v < n ∧ (farL n links b).getD v 0 = (k : Int) ∧ W.drop (i + 1) = wayL links (farL n links b) k (v : Int) ∧ ((l.p = (u : Int) ∧ l.q = (v : Int)) ∨ (l.p = (v : Int) ∧ l.q = (u : Int))) := by
  have hne : u ≠ b := fun e => by rw [e, far_self links hb] at hk; omega
  obtain ⟨l, v, ho, hl, hn, hv, hd, hs⟩ := hopOn_some he hb hu hne (by omega)
  rw [wayL_step ho] at hW
  refine ⟨l, v, ?_, hl, hv, by omega, ?_, nextOf_iff.1 hn⟩
  · have := congrArg (fun z => z[0]?) hW
    simpa using this
  · rw [← List.drop_drop, hW]
    rfl
end Go.Proofs.YtjcpcjickdcpmacGreatDoor.Bar

/- The program's way. -/
namespace Go.Proofs.YtjcpcjickdcpmacGreatDoor.Bar
open Go.RowKit Go.Shelf Doc
attribute [local go_sem] Oper.semAt_some wide_fn wide_depth

/-- The way at work: the counts, the hops so far, and where it stands. -/
structure WayP (W : World) (F P8 P9 P10 B n : Nat) (D : List Int) (u : Int) (lv : Value) (dn : List LinkM) : Prop where
  hF : W.heap[F]? = some (.cells (ints D).toArray 3 (0, 0))
  h8 : W.heap[P8]? = some (.cells #[.slice (some ⟨F, 0, none⟩) n n] 37 (0, 0))
  h9 : W.heap[P9]? = some (.cells #[lv] 41 (0, 0))
  h10 : W.heap[P10]? = some (.cells #[.int .i64 u] 3 (0, 0))
  own : W.ownsRow B 45 2 lv dn.length (dn.flatMap hopCells)
  ne : P10 ≠ F
theorem WayP.grow {W W' : World} {F P8 P9 P10 B n : Nat} {D : List Int} {u : Int} {lv : Value} {dn : List LinkM} (h : WayP W F P8 P9 P10 B n D u lv dn) (hb : ∀ (k : Nat) c t fz, W.heap[k]? = some (Obj.cells c t fz) → W'.heap[k]? = some (Obj.cells c t fz)) : WayP W' F P8 P9 P10 B n D u lv dn := by
  refine ⟨hb _ _ _ _ h.hF, hb _ _ _ _ h.h8, hb _ _ _ _ h.h9, hb _ _ _ _ h.h10, own_other h.own (fun k hk => ?_), h.ne⟩
  rcases h.own.2 with ⟨rfl, _⟩ | ⟨g, cp, cur, rfl, _, h5, _⟩
  · cases hk
  · cases hk; rw [h5]; exact hb _ _ _ _ h5
theorem WayP.next {W : World} {F P8 P9 P10 B n : Nat} {D : List Int} {u : Int} {lv : Value} {dn : List LinkM} (h : WayP W F P8 P9 P10 B n D u lv dn) : WayP (W.alloc (.cells #[.int .i64 u] 3)) F P8 P9 W.heap.size B n D u lv dn := by
  have h2 := h.grow (W' := W.alloc (.cells #[.int .i64 u] 3)) (fun k c t fz hk => (Below.heap_alloc _ _ _ (Array.getElem?_eq_some_iff.1 hk).1).trans hk)
  exact ⟨h2.hF, h2.h8, h2.h9, World.alloc_heap_new W _, h2.own, fun e => by have := (Array.getElem?_eq_some_iff.1 h.hF).1; omega⟩
theorem WayP.same {X1 w3 : World} {F P8 P9 P10 B n : Nat} {D : List Int} {u : Int} {lv : Value} {dn : List LinkM} {o : Obj} (h : WayP X1 F P8 P9 P10 B n D u lv dn) (hg : (X1.alloc o).grownBy w3 lv.ownBlock) {k : Nat} {c : Array Value} {t : TypeId} (ht : t ≠ 45) (hk : X1.heap[k]? = some (.cells c t (0, 0))) : w3.heap[k]? = some (.cells c t (0, 0)) := by
  have hkl := (Array.getElem?_eq_some_iff.1 hk).1
  rw [hg.block k (by rw [World.size_alloc]; omega) (fun e => by
    rcases h.own.2 with ⟨e0, _⟩ | ⟨g, cp, cur, e0, _, h6, _⟩
    · rw [e0] at e; cases e
    · rw [e0] at e; cases e; rw [hk] at h6; cases h6; exact ht rfl), Below.heap_alloc _ _ _ hkl, hk]
theorem own_type {w : World} {B e sz m : Nat} {v : Value} {xs : List Value} (h : w.ownsRow B e sz v m xs) {k : Nat} (hk : v.ownBlock = some k) : ∃ cur fz, w.heap[k]? = some (.cells cur e fz) := by
  rcases h.2 with ⟨rfl, _⟩ | ⟨g, cp, cur, rfl, _, h6, _⟩
  · cases hk
  · cases hk; exact ⟨_, _, h6⟩
theorem WayP.push {X1 w3 : World} {F P8 P9 P10 B n : Nat} {D : List Int} {u : Int} {lv v' : Value} {dn : List LinkM} {o : Obj} {x : LinkM} (h : WayP X1 F P8 P9 P10 B n D u lv dn) (hg : (X1.alloc o).grownBy w3 lv.ownBlock) (hown : w3.ownsRow B 45 2 v' (dn.length + 1) (dn.flatMap hopCells ++ [.bool x.tie, .int .i64 x.no])) (t : Int) :
    WayP ((w3.setCell ⟨P9, 0, none⟩ v').setCell ⟨P10, 0, none⟩ (.int .i64 t)) F P8 P9 P10 B n D t v' (dn ++ [x]) := by
  have kF := h.same hg (by decide) h.hF
  have k8 := h.same hg (by decide) h.h8
  have k9 := h.same hg (by decide) h.h9
  have k10 := h.same hg (by decide) h.h10
  have n1 : P9 ≠ P10 := fun e => by rw [e, k10] at k9; cases k9
  have n2 : P8 ≠ P9 := fun e => by rw [e, k9] at k8; cases k8
  have n3 : P8 ≠ P10 := fun e => by rw [e, k10] at k8; cases k8
  have n4 : F ≠ P9 := fun e => by
    rw [e, k9] at kF
    have h9 := Option.some.inj kF
    injection h9 with _ h9 _
    exact absurd h9 (by decide)
  refine ⟨?_, ?_, ?_, ?_, ?_, h.ne⟩
  · rw [Below.heap_setCell _ _ _ _ (fun e => h.ne e.symm), Below.heap_setCell _ _ _ _ n4]; exact kF
  · rw [Below.heap_setCell _ _ _ _ n3, Below.heap_setCell _ _ _ _ n2]; exact k8
  · rw [Below.heap_setCell _ _ _ _ n1, set_any k9 0 v']; rfl
  · have k10' : (w3.setCell ⟨P9, 0, none⟩ v').heap[P10]? = some (.cells #[.int .i64 u] 3 (0, 0)) := by
      rw [Below.heap_setCell _ _ _ _ (fun e => n1 e.symm)]; exact k10
    rw [set_any k10' 0 (.int .i64 t)]; rfl
  · rw [hop_snoc, List.length_append]
    refine own_other hown (fun k hk => ?_)
    obtain ⟨cur, fz, h6⟩ := own_type hown hk
    have m1 : k ≠ P9 := fun e => by rw [e, k9] at h6; cases h6
    have m2 : k ≠ P10 := fun e => by rw [e, k10] at h6; cases h6
    rw [Below.heap_setCell _ _ _ _ m2, Below.heap_setCell _ _ _ _ m1]
/-- None of these is a hop of the way. -/
def NoneOf (D : List Int) (u : Int) {links : List LinkM} {v : Int} (pre : List (Lead links v)) : Prop := ∀ x ∈ pre, isHop D u x.1 = false
theorem find_none {D : List Int} {u : Int} {links : List LinkM} {v : Int} {pre : List (Lead links v)} (h : NoneOf D u pre) : (pre.map (·.1)).find? (isHop D u) = none := by
  rw [List.find?_eq_none]
  intro y hy
  obtain ⟨x, hx, rfl⟩ := List.mem_map.1 hy
  rw [h x hx]
  decide

set_option maxRecDepth 100000 in
set_option maxHeartbeats 4000000 in
theorem way_any (n : Nat) (hn : n ≤ 1000) (links : List LinkM) (hlen : links.length ≤ 1000) (hends : Ends n links) (a : Option Addr) (cap : Nat) (x y : Nat) (hx : x < n) (hy : y < n) (w : World)
    (hr : RowAt w (.slice a links.length cap) links.length 4 (links.flatMap LinkM.cells)) :
    Calls Tryz.prog 13 #[.agg #[.int .i64 n, .slice a links.length cap], .int .i64 (x : Int), .int .i64 (y : Int)] w fun e w' => ((farL n links (y : Int)).getD x 0 = -1 → AnswersH [] 10 w e w') ∧ ((farL n links (y : Int)).getD x 0 ≠ -1 → AnswersH (wayL links (farL n links (y : Int)) ((farL n links (y : Int)).getD x 0).toNat (x : Int)) 0 w e w') := by
  have hfl := farL_len (links := links) (b := (y : Int)) hends ⟨by omega, by omega⟩
  obtain ⟨W0, hW0⟩ : ∃ W0, W0 = w.alloc (.cells #[.int .i64 n, .slice a links.length cap] 58) := ⟨_, rfl⟩
  have HFAR := hide' (far_any n hn links hlen hends a cap (y : Int) ⟨by omega, by omega⟩ W0 (RowAt.below hr (by rw [hW0]; exact (Below.refl _ w).alloc (Nat.le_refl _) _) (Nat.le_refl _)))
  have HW0 := hide' hW0
  have HR := hide' hr
  have HE := hide' hends
  have HFL := hide' hfl
  clear hW0 hr hends hfl
  refine (callsIn_wide (n := 3)).1 ?_
  refine callsIn_of_wp_marks Tryz.func13 rfl trivial ?_
  simp only [Tryz.ntmps13, List.size_toArray, List.length_cons, List.length_nil, Nat.reduceAdd, Nat.reduceSub, Array.replicate_succ, Array.replicate_zero, List.push_toArray, List.append_toArray, List.nil_append, List.cons_append]
  gi_wp2_with fail
  rw [← HW0.out]
  refine ((callsIn_wide (n := 2)).2 HFAR.out).mono ?_
  rintro e w1 ⟨F, rfl, hF0, hFrow, hb1⟩
  obtain ⟨cX, fX⟩ := intsCell hFrow (j := x) (by rw [HFL.out]; exact hx)
  obtain ⟨z, hz⟩ : ∃ z, z = (farL n links (y : Int)).getD x 0 := ⟨_, rfl⟩
  rw [← hz] at cX
  have hFl : F < w1.heap.size := (Array.getElem?_eq_some_iff.1 hFrow).1
  have cX' : ∀ o, (w1.alloc o).cell? ⟨F, x, none⟩ = some (.int .i64 z) := fun o => by
    rw [World.cell?_of_block (Below.heap_alloc w1 o F hFl)]; exact cX
  have HFR := hide' hFrow
  have HB1 := hide' hb1
  have HF0 := hide' hF0
  have HZ := hide' hz
  have hzs : W0.heap.size = w.heap.size + 1 := by rw [HW0.out]; simp
  have HBW1 : Hid (Below w.heap.size w w1) := by
    have h2 := HB1.out
    rw [HW0.out] at h2
    exact ((Below.refl _ w).alloc (Nat.le_refl _) _).trans (h2.mono (by simp))
  have HBX1 : Hid (w1.heap[w.heap.size]? = some (.cells #[.int .i64 n, .slice a links.length cap] 58 (0, 0))) := by
    show _ = _
    rw [HB1.out.block w.heap.size (by omega), HW0.out]
    exact World.alloc_heap_new w _
  have HFW : Hid (w.heap.size < F) := by show _ < _; omega
  have HFL1 := hide' hFl
  clear hFrow hb1 hF0 hz cX fX hzs
  by_cases hd : z = -1
  · have HD := hide' hd
    subst hd
    gi_wp2
    refine leaves_marks [] _ ⟨List.nodup_nil, fun d h => by cases h⟩ ?_
    intro W' h1 h2 h3 h4 h5
    refine ⟨_, results_tmp2 rfl _ _ _, fun _ => answersH_nil ?_, fun h => absurd HZ.out.symm h⟩
    have hba := HBW1.out.alloc HBW1.out.size (.cells #[.slice (some ⟨F, 0, none⟩) n n] 37)
    refine ⟨h2.trans hba.os, h3.trans hba.tape, h4.trans hba.output, by rw [← h1]; exact hba.size, fun k hk => ?_⟩
    rw [h5 k (fun hm => by cases hm)]
    exact hba.block k hk
  · have HD := hide' hd
    obtain ⟨k0, hk0⟩ : ∃ k0 : Nat, z = (k0 : Int) := ⟨z.toNat, by have := (far_spec HE.out hy).2.1 x hx; rw [← HZ.out] at this; omega⟩
    have HK0 := hide' hk0
    have hkn : k0 < n := by have := (far_spec HE.out hy).2.1 x hx; rw [← HZ.out] at this; omega
    clear hk0
    gi_wp2_with fail
    obtain ⟨W1, hW1⟩ : ∃ W1, W1 = (((w1.alloc (.cells #[.slice (some ⟨F, 0, none⟩) n n] 37)).alloc (.cells #[.slice none 0 0] 41)).alloc (.cells #[.int .i64 (x : Int)] 3)) := ⟨_, rfl⟩
    rw [← hW1]
    have HBA : Hid (Below w1.heap.size w1 W1) := by rw [hW1]; exact (((Below.refl _ w1).alloc (Nat.le_refl _) _).alloc (by simp) _).alloc (by simp; omega) _
    have HST : Hid (WayP W1 F w1.heap.size (w1.heap.size + 1) (w1.heap.size + 1 + 1) w1.heap.size n (farL n links (y : Int)) (x : Int) (.slice none 0 0) []) := by
      have e3 := World.alloc_heap_new ((w1.alloc (.cells #[.slice (some ⟨F, 0, none⟩) n n] 37)).alloc (.cells #[.slice none 0 0] 41)) (.cells #[.int .i64 (x : Int)] 3)
      rw [World.size_alloc, World.size_alloc, ← hW1] at e3
      have e2 := World.alloc_heap_new (w1.alloc (.cells #[.slice (some ⟨F, 0, none⟩) n n] 37)) (.cells #[.slice none 0 0] 41)
      rw [World.size_alloc] at e2
      refine ⟨(HBA.out.block F HFL1.out).trans HFR.out, ?_, ?_, e3, ⟨rfl, .inl ⟨rfl, rfl⟩⟩, by have := HFL1.out; omega⟩
      · rw [hW1, Below.heap_alloc _ _ _ (by simp; omega), Below.heap_alloc _ _ _ (by simp)]
        exact World.alloc_heap_new w1 _
      · rw [hW1, Below.heap_alloc _ _ _ (by simp)]
        exact e2
    have HBW : Hid (Below w.heap.size w W1) := HBW1.out.trans (HBA.out.mono HBW1.out.size)
    have HBX : Hid (W1.heap[w.heap.size]? = some (.cells #[.int .i64 n, .slice a links.length cap] 58 (0, 0))) := (HBA.out.block _ (Array.getElem?_eq_some_iff.1 HBX1.out).1).trans HBX1.out
    clear hW1 cX'
    refine wpIn_loop_ghost (fun g A W => ∃ (u P10 : Nat) (lv : Value) (dn : List LinkM) (L : List Nat) (u20 u22 u23 u24 u25 u26 u27 u45 : Value), A = { tmps := #[.agg #[.int .i64 n, .slice a links.length cap], .int .i64 (x : Int), .int .i64 (y : Int), .pointer (some ⟨w.heap.size, 0, none⟩), undef, undef, .slice none 0 0, .int .i64 0, .pointer (some ⟨w1.heap.size, 0, none⟩), .pointer (some ⟨w1.heap.size + 1, 0, none⟩), .pointer (some ⟨P10, 0, none⟩), undef, undef, .agg #[.int .i64 n, .slice a links.length cap], .int .i64 (y : Int), .slice (some ⟨F, 0, none⟩) n n, .slice (some ⟨F, 0, none⟩) n n, .int .i64 (x : Int), .pointer (some ⟨F, x, none⟩), .int .i64 z, u20, .int .i64 (x : Int), u22, u23, u24, u25, u26, u27, undef, undef, undef, undef, undef, undef, undef, undef, undef, undef, undef, undef, undef, undef, undef, undef, undef, u45, undef], defers := marks L } ∧ u < n ∧ Hid (w.heap.size ≤ P10) ∧ Hid ((farL n links (y : Int)).getD u 0 = (g : Int)) ∧ Hid (dn ++ wayL links (farL n links (y : Int)) g (u : Int) = wayL links (farL n links (y : Int)) k0 (x : Int)) ∧ Hid (WayP W F w1.heap.size (w1.heap.size + 1) P10 w1.heap.size n (farL n links (y : Int)) (u : Int) lv dn) ∧ Hid (dn.length + g = k0) ∧ Hid (Below w.heap.size w W) ∧ Hid (W.heap[w.heap.size]? = some (.cells #[.int .i64 n, .slice a links.length cap] 58 (0, 0))) ∧ Hid (MarksAt W L) ∧ Hid (∀ d ∈ L, w.heap.size ≤ d)) k0 ⟨x, w1.heap.size + 1 + 1, .slice none 0 0, [], [], _, _, _, _, _, _, _, _, rfl, hx, by show _ ≤ _; have := HBW1.out.size; omega, by show _ = _; rw [← HZ.out]; exact HK0.out, rfl, HST, Nat.zero_add _, HBW, HBX, ⟨List.nodup_nil, fun d h => by cases h⟩, fun d h => by cases h⟩ ?_
    clear HST HBW HBX HBA
    rintro g A W ⟨u, P10, lv, dn, L, u20, u22, u23, u24, u25, u26, u27, u45, rfl, hu, HP10, HG, HWAY, HS, HLEN, HBW, HBX, HM, HL⟩
    obtain ⟨c8, f8⟩ := cell1 HS.out.h8
    obtain ⟨c9, f9⟩ := cell1 HS.out.h9
    obtain ⟨c10, f10⟩ := cell1 HS.out.h10
    by_cases hub : u = y
    · subst hub
      have hg0 : g = 0 := by
        have h1 := far_self links hu
        rw [HG.out] at h1
        omega
      subst hg0
      obtain ⟨alv, clv, hlv⟩ := own_slice HS.out.own
      gi_wp2_with fail
      refine leaves_marks L W HM.out ?_
      intro W' h1 h2 h3 h4 h5
      refine ⟨_, results_tmp2 rfl _ _ _, fun h => absurd h (by rw [← HZ.out]; exact HD.out), fun _ => ?_⟩
      have hl : wayL links (farL n links (u : Int)) ((farL n links (u : Int)).getD x 0).toNat (x : Int) = dn := by
        rw [← HZ.out, HK0.out, Int.toNat_natCast, ← HWAY.out, wayL, List.append_nil]
      rw [hl]
      subst hlv
      refine ⟨alv, clv, rfl, rowAt_of_own (own_other HS.out.own (fun k hk => h5 k (fun hm => ?_))), ?_⟩
      · have e1 := HM.out.2 k hm
        rcases HS.out.own.2 with ⟨e0, _⟩ | ⟨g, cp, cur, e0, _, h6, _⟩
        · rw [e0] at hk; cases hk
        · rw [e0] at hk; cases hk; rw [h6] at e1; cases e1
      · refine ⟨h2.trans HBW.out.os, h3.trans HBW.out.tape, h4.trans HBW.out.output, by rw [← h1]; exact HBW.out.size, fun k hk => ?_⟩
        rw [h5 k (fun hm => by have := HL.out k hm; omega)]
        exact HBW.out.block k hk
    · have hb0 : W.cell? ⟨w.heap.size, 0, none⟩ = some (.int .i64 n) := by simp only [World.cell?, HBX.out]; rfl
      have hb1 : W.cell? ⟨w.heap.size, 1, none⟩ = some (.slice a links.length cap) := by simp only [World.cell?, HBX.out]; rfl
      have hne : ((u : Int) == (y : Int)) = false := beq_eq_false_iff_ne.2 (by omega)
      have hdu : (farL n links (y : Int)).getD u 0 ≠ -1 := by rw [HG.out]; omega
      obtain ⟨hl1, hv1, hop1, hmem1, hnx1, hvn1, hdv1, hduv⟩ := hopOn_some HE.out hy hu hub hdu
      have HHOP := hide' hop1
      have HDUV := hide' hduv
      have HNE := hide' hub
      have HDV : Hid (0 ≤ (farL n links (y : Int)).getD hv1 0) := by
        have h9 := (far_spec HE.out hy).2.1 hv1 hvn1
        show _ ≤ _
        omega
      clear hop1 hmem1 hnx1 hdv1 hduv hub hdu
      gi_wp2_with fail
      refine ((callsIn_wide (n := 2)).2 (onward_any n (.slice a links.length cap) (u : Int) W)).mono ?_
      rintro e w2 ⟨rfl, hw2⟩
      have hz2 : w2.heap.size = W.heap.size + 2 := by rw [hw2]; simp
      have hbw2 : Below W.heap.size W w2 := by rw [hw2]; exact ((Below.refl _ W).alloc (Nat.le_refl _) _).alloc (by simp) _
      have hg2 : w2.heap[W.heap.size]? = some (.cells #[.int .i64 n, .slice a links.length cap] 58 (0, 0)) := by
        rw [hw2]
        exact (Below.heap_alloc _ _ _ (by simp)).trans (World.alloc_heap_new W _)
      have hu2 : w2.heap[W.heap.size + 1]? = some (.cells #[.int .i64 (u : Int)] 3 (0, 0)) := by
        rw [hw2]
        have := World.alloc_heap_new (W.alloc (.cells #[.int .i64 n, .slice a links.length cap] 58)) (.cells #[.int .i64 (u : Int)] 3)
        rwa [World.size_alloc] at this
      obtain ⟨bls, hbls, hbl⟩ : ∃ bls : List Nat, (∀ k ∈ bls, k < w.heap.size) ∧ ∀ b o, a = some ⟨b, o, none⟩ → 0 < links.length → b ∈ bls := by
        by_cases h0 : 0 < links.length
        · obtain ⟨b, off, ea, hce⟩ := link_elem HR.out 0 h0
          refine ⟨[b], fun k hk => ?_, fun b2 o e _ => ?_⟩
          · rw [List.mem_singleton.1 hk]
            exact World.block_lt_of_cell? w _ (hce 0 _ rfl)
          · rw [ea] at e
            cases e
            simp
        · exact ⟨[], fun k hk => (by cases hk), fun _ _ _ h => absurd h h0⟩
      have hWs := HBW.out.size
      have HS2 := hide' (HS.out.grow (W' := w2) (fun k c t fz hk => (hbw2.block k (Array.getElem?_eq_some_iff.1 hk).1).trans hk))
      have HBW2 : Hid (Below w.heap.size w w2) := HBW.out.trans (hbw2.mono hWs)
      have HBX2 : Hid (w2.heap[w.heap.size]? = some (.cells #[.int .i64 n, .slice a links.length cap] 58 (0, 0))) := (hbw2.block _ (Array.getElem?_eq_some_iff.1 HBX.out).1).trans HBX.out
      have HM2 : Hid (MarksAt w2 L) := ⟨HM.out.1, fun d hd => (hbw2.block d (Array.getElem?_eq_some_iff.1 (HM.out.2 d hd)).1).trans (HM.out.2 d hd)⟩
      have hbse : ∀ k ∈ [W.heap.size, W.heap.size + 1] ++ bls, k < w2.heap.size := fun k hk => by
        rcases List.mem_append.1 hk with hk | hk
        · simp at hk; omega
        · have := hbls k hk; omega
      obtain ⟨bs, hbsd⟩ : ∃ bs, bs = [W.heap.size, W.heap.size + 1] ++ bls := ⟨_, rfl⟩
      have hstop := onward1_stops links hlen n a cap (u : Int) W.heap.size (W.heap.size + 1) bs (by rw [hbsd]; simp) (by rw [hbsd]; simp) (fun b o e h => by rw [hbsd]; exact List.mem_append_right _ (hbl b o e h)) w2 (by rw [hbsd]; exact hbse) hg2 (cell1 hu2).1 (RowAt.below HR.out HBW2.out (Nat.le_refl _))
      rw [← hbsd] at hbse
      clear hbsd hbl hbls hw2 c8 f8 c9 f9 c10 f10 hb0 hb1 hg2 hu2
      have HB8 := hide' hbse
      have HST8 := hide' hstop
      have HZ2 := hide' hz2
      clear hbse hstop hz2
      gi_wp2_with fail
      have hbse := HB8.out
      refine wpIn_rangeFunc_ownH (n := 3) (α := Lead links (u : Int)) rfl (by decide) (gf := 21) (lb := #[.pointer (some ⟨W.heap.size, 0, none⟩), .pointer (some ⟨W.heap.size + 1, 0, none⟩)]) rfl trivial (enters_of Tryz.func21 (by kernel_rfl) rfl) HST8.out (fun h k => h.trans k) (fun X l o o' hl _ _ _ => KeptB.putObj o' (fun hm => by have := hbse l hm; omega)) (Below.refl _ _) (fun _ => rfl)
        (fun pre W' => Hid (WayP W' F w1.heap.size (w1.heap.size + 1) P10 w1.heap.size n (farL n links (y : Int)) (u : Int) lv dn) ∧ Hid (NoneOf (farL n links (y : Int)) (u : Int) pre) ∧ Hid (Below w.heap.size w W') ∧ Hid (KeptB bs w2 W') ∧ Hid (w2.heap.size ≤ W'.heap.size) ∧ Hid (W'.heap[w.heap.size]? = some (.cells #[.int .i64 n, .slice a links.length cap] 58 (0, 0))) ∧ Hid (MarksAt W' L))
        (fun c pre W' => ∃ (q : List (Lead links (u : Int))) (xl : Lead links (u : Int)) (lv' : Value), c = .exit 2 ∧ pre = q ++ [xl] ∧ NoneOf (farL n links (y : Int)) (u : Int) q ∧ isHop (farL n links (y : Int)) (u : Int) xl.1 = true ∧ Hid (WayP W' F w1.heap.size (w1.heap.size + 1) P10 w1.heap.size n (farL n links (y : Int)) xl.1.2 lv' (dn ++ [xl.1.1])) ∧ Hid (Below w.heap.size w W') ∧ Hid (w2.heap.size ≤ W'.heap.size) ∧ Hid (W'.heap[w.heap.size]? = some (.cells #[.int .i64 n, .slice a links.length cap] 58 (0, 0))) ∧ Hid (MarksAt W' L))
        ?hI ?hIx ⟨HS2, fun x hx => by (cases hx), HBW2, KeptB.refl _ _, Nat.le_refl _, HBX2, HM2⟩
        (fun xl A' W' => ∃ P11 : Nat, A' = { tmps := #[.agg #[.int .i64 n, .slice a links.length cap], .int .i64 (x : Int), .int .i64 (y : Int), .pointer (some ⟨w.heap.size, 0, none⟩), undef, undef, .slice none 0 0, .int .i64 0, .pointer (some ⟨w1.heap.size, 0, none⟩), .pointer (some ⟨w1.heap.size + 1, 0, none⟩), .pointer (some ⟨P10, 0, none⟩), .pointer (some ⟨P11, 0, none⟩), .int .i64 xl.1.2, .agg #[.int .i64 n, .slice a links.length cap], .int .i64 (y : Int), .slice (some ⟨F, 0, none⟩) n n, .slice (some ⟨F, 0, none⟩) n n, .int .i64 (x : Int), .pointer (some ⟨F, x, none⟩), .int .i64 z, u20, .int .i64 (x : Int), .int .i64 (u : Int), .int .i64 (y : Int), .bool true, .agg #[.int .i64 n, .slice a links.length cap], .int .i64 (u : Int), .func (.func 21) #[] #[.pointer (some ⟨W.heap.size, 0, none⟩), .pointer (some ⟨W.heap.size + 1, 0, none⟩)], .agg #[.bool xl.1.1.tie, .int .i64 xl.1.1.no], .int .i64 xl.1.2, undef, undef, undef, undef, undef, undef, undef, undef, undef, undef, undef, undef, undef, undef, undef, u45, undef], defers := [] } ∧ W'.heap[P11]? = some (.cells #[.bool xl.1.1.tie, .int .i64 xl.1.1.no] 45 (0, 0))) ?hAx ?assign ?body ?done ?stop
      case hI =>
        rintro pre X Y row ⟨h1, h2, h3, h4, h5, h6, h7⟩ hg hr
        have hcell : ∀ (k : Nat) (c : Array Value) (t : TypeId) (fz : Nat × Nat), X.heap[k]? = some (Obj.cells c t fz) → Y.heap[k]? = some (Obj.cells c t fz) := fun k c t fz hk => by
          rw [hg.block k (Array.getElem?_eq_some_iff.1 hk).1 (fun e => by
            obtain ⟨_, o, ho, hc⟩ := hr k e.symm
            rw [hk] at ho
            cases ho
            cases hc), hk]
        have hlow : ∀ k, k < w2.heap.size → k < X.heap.size → Y.heap[k]? = X.heap[k]? := fun k hk hk2 => hg.block k hk2 (fun e => by have := (hr k e.symm).1; omega)
        refine ⟨h1.out.grow hcell, h2, ?_, ?_, Nat.le_trans h5.out hg.size, hcell _ _ _ _ h6.out, h7.out.1, fun d hd => ?_⟩
        · exact h3.out.grown hg h3.out.size (fun k e => by have := (hr k e).1; have := HBW2.out.size; omega)
        · exact h4.out.trans ⟨hg.size, fun k hk => hlow k (hbse k hk) (by have := hbse k hk; have := h5.out; omega)⟩
        · have e1 := HM2.out.2 d hd
          have e2 := (Array.getElem?_eq_some_iff.1 e1).1
          have e3 := h7.out.2 d hd
          exact (hlow d e2 (Array.getElem?_eq_some_iff.1 e3).1).trans e3
      case hIx =>
        rintro c pre X Y row ⟨q, xl, lv', e1, e2, e3, e4, h1, h3, h5, h6, h7⟩ hg hr
        have hcell : ∀ (k : Nat) (c : Array Value) (t : TypeId) (fz : Nat × Nat), X.heap[k]? = some (Obj.cells c t fz) → Y.heap[k]? = some (Obj.cells c t fz) := fun k c t fz hk => by
          rw [hg.block k (Array.getElem?_eq_some_iff.1 hk).1 (fun e => by
            obtain ⟨_, o, ho, hc⟩ := hr k e.symm
            rw [hk] at ho
            cases ho
            cases hc), hk]
        have hlow : ∀ k, k < w2.heap.size → k < X.heap.size → Y.heap[k]? = X.heap[k]? := fun k hk hk2 => hg.block k hk2 (fun e => by have := (hr k e.symm).1; omega)
        refine ⟨q, xl, lv', e1, e2, e3, e4, h1.out.grow hcell, ?_, Nat.le_trans h5.out hg.size, hcell _ _ _ _ h6.out, h7.out.1, fun d hd => ?_⟩
        · exact h3.out.grown hg h3.out.size (fun k e => by have := (hr k e).1; have := HBW2.out.size; omega)
        · have e1 := HM2.out.2 d hd
          have e2 := (Array.getElem?_eq_some_iff.1 e1).1
          have e3 := h7.out.2 d hd
          exact (hlow d e2 (Array.getElem?_eq_some_iff.1 e3).1).trans e3
      case hAx =>
        rintro xl A' _ X Y row ⟨P11, h1, h2⟩ hg hr
        refine ⟨P11, h1, ?_⟩
        rw [hg.block P11 (Array.getElem?_eq_some_iff.1 h2).1 (fun e => by
          obtain ⟨_, o, ho, hc⟩ := hr P11 e.symm
          rw [h2] at ho
          cases ho
          cases hc), h2]
      case assign =>
        rintro l pre xl X K ⟨h1, h2, h3, h4, h5, h6, h7⟩ hK
        unfold leadV
        have hKK := hK { tmps := #[.agg #[.int .i64 n, .slice a links.length cap], .int .i64 (x : Int), .int .i64 (y : Int), .pointer (some ⟨w.heap.size, 0, none⟩), undef, undef, .slice none 0 0, .int .i64 0, .pointer (some ⟨w1.heap.size, 0, none⟩), .pointer (some ⟨w1.heap.size + 1, 0, none⟩), .pointer (some ⟨P10, 0, none⟩), .pointer (some ⟨X.heap.size, 0, none⟩), .int .i64 xl.1.2, .agg #[.int .i64 n, .slice a links.length cap], .int .i64 (y : Int), .slice (some ⟨F, 0, none⟩) n n, .slice (some ⟨F, 0, none⟩) n n, .int .i64 (x : Int), .pointer (some ⟨F, x, none⟩), .int .i64 z, u20, .int .i64 (x : Int), .int .i64 (u : Int), .int .i64 (y : Int), .bool true, .agg #[.int .i64 n, .slice a links.length cap], .int .i64 (u : Int), .func (.func 21) #[] #[.pointer (some ⟨W.heap.size, 0, none⟩), .pointer (some ⟨W.heap.size + 1, 0, none⟩)], .agg #[.bool xl.1.1.tie, .int .i64 xl.1.1.no], .int .i64 xl.1.2, undef, undef, undef, undef, undef, undef, undef, undef, undef, undef, undef, undef, undef, undef, undef, u45, undef], defers := [] } (X.alloc (.cells #[.bool xl.1.1.tie, .int .i64 xl.1.1.no] 45)) ((KeepsOthers.alloc _ _).from _) (KeptB.alloc _ (fun k hk => by have := hbse k hk; have := h5.out; omega))
          ⟨h1.out.grow (fun k c t fz hk => (Below.heap_alloc _ _ _ (Array.getElem?_eq_some_iff.1 hk).1).trans hk), h2, h3.out.alloc h3.out.size _, h4.out.trans (KeptB.alloc _ (fun k hk => by have := hbse k hk; have := h5.out; omega)), Nat.le_trans h5.out (by simp), (Below.heap_alloc _ _ _ (Array.getElem?_eq_some_iff.1 h6.out).1).trans h6.out, h7.out.1, fun d hd => (Below.heap_alloc _ _ _ (Array.getElem?_eq_some_iff.1 (h7.out.2 d hd)).1).trans (h7.out.2 d hd)⟩
          ⟨X.heap.size, rfl, World.alloc_heap_new X _⟩
        have HKK := hide' hKK
        clear hK hKK
        gi_wp2
        exact HKK.out
      case done =>
        rintro D xs X hD hxs ⟨h1, h2, h3, h4, h5, h6, h7⟩ hDf
        exfalso
        have h9 := find_none h2.out
        rw [hxs] at h9
        exact absurd (h9.symm.trans HHOP.out) (by simp)
      case stop =>
        rintro D c pre X hD ⟨rest, hrest⟩ ⟨q, xl, lv', rfl, rfl, hq, hxl, h1, h3, h5, h6, h7⟩ hDf
        have hop : hopOn links (farL n links (y : Int)) (u : Int) = some xl.1 := by
          have h9 : ((q ++ [xl]).map (·.1) ++ rest).find? (isHop (farL n links (y : Int)) (u : Int)) = some xl.1 := by
            rw [List.map_append, List.find?_append, List.find?_append, find_none hq]
            simp [hxl]
          exact (congrArg (List.find? (isHop (farL n links (y : Int)) (u : Int))) hrest).symm.trans h9
        have hxe : xl.1 = (hl1, (hv1 : Int)) := Option.some.inj (hop.symm.trans HHOP.out)
        rw [hxe] at h1
        obtain ⟨c10, f10⟩ := cell1 h1.out.h10
        have HDF := hide' hDf
        have HBWX : Hid (w.heap.size ≤ X.heap.size) := h3.out.size
        clear hDf
        gi_wp2
        have hg1 := HG.out
        have hg2 := HDUV.out
        have hg3 := HDV.out
        obtain ⟨f, hgf⟩ : ∃ f, g = f + 1 := ⟨g - 1, by omega⟩
        have hDl : D < X.heap.size := (Array.getElem?_eq_some_iff.1 HDF.out).1
        refine ⟨f, by omega, hv1, X.heap.size, lv', dn ++ [hl1], D :: L, ⟨rfl, rfl⟩, hvn1, HBWX, ?_, ?_, h1.out.next, ?_, h3.out.alloc h3.out.size _, (Below.heap_alloc _ _ _ (Array.getElem?_eq_some_iff.1 h6.out).1).trans h6.out, ⟨?_, fun d hd => ?_⟩, fun d hd => ?_⟩
        · show _ = _
          rw [← List.getD_eq_getElem?_getD]
          omega
        · show _ = _
          have h9 := HWAY.out
          rw [hgf, wayL_step HHOP.out f] at h9
          rw [← h9, List.append_assoc]
          rfl
        · show _ = _
          have h9 := HLEN.out
          rw [List.length_append]
          simp only [List.length_cons, List.length_nil]
          omega
        · refine List.nodup_cons.2 ⟨fun hm => ?_, HM2.out.1⟩
          have e1 := (Array.getElem?_eq_some_iff.1 (HM2.out.2 D hm)).1
          omega
        · rcases List.mem_cons.1 hd with rfl | hd
          · exact (Below.heap_alloc _ _ _ hDl).trans HDF.out
          · have e1 := h7.out.2 d hd
            exact (Below.heap_alloc _ _ _ (Array.getElem?_eq_some_iff.1 e1).1).trans e1
        · rcases List.mem_cons.1 hd with rfl | hd
          · have := HBW2.out.size; omega
          · exact HL.out d hd
      case body =>
        rintro l pre xl A' X hwl hrec ⟨h1, h2, h3, h4, h5, h6, h7⟩ ⟨P11, rfl, h11⟩ hpl
        obtain ⟨c8, f8⟩ := cell1 h1.out.h8
        obtain ⟨c10, f10⟩ := cell1 h1.out.h10
        have hvv := onw_ends HE.out xl.1 xl.2
        obtain ⟨vN, hvN⟩ := Int.eq_ofNat_of_zero_le hvv.1
        have hvn : vN < n := by omega
        obtain ⟨cV, fV⟩ := intsCell h1.out.hF (j := vN) (by rw [HFL.out]; exact hvn)
        obtain ⟨cU, fU⟩ := intsCell h1.out.hF (j := u) (by rw [HFL.out]; exact hu)
        have hdr := (far_spec HE.out hy).2.1 u hu
        obtain ⟨dv, hdv⟩ : ∃ d, d = (farL n links (y : Int)).getD vN 0 := ⟨_, rfl⟩
        obtain ⟨du, hdu⟩ : ∃ d, d = (farL n links (y : Int)).getD u 0 := ⟨_, rfl⟩
        rw [← hdv] at cV
        rw [← hdu] at cU hdr
        have hwd : IntKind.i64.wrap (du - 1) = du - 1 := Go.IntWalk.i64_in _ (by omega)
        have HIS : Hid (isHop (farL n links (y : Int)) (u : Int) xl.1 = (dv == du - 1)) := by
          show _ = _
          rw [isHop, hvN, Int.toNat_natCast, Int.toNat_natCast, ← hdv, ← hdu]
        have HVN := hide' hvN
        have HH11 := hide' h11
        rw [hvN]
        clear hdv hdu hvN h11 hvv
        gi_wp2_with fail
        refine wpIn_calm ?_
        refine wpIn_region_U (fun W => W.cell? ⟨w1.heap.size, 0, none⟩ = some (.slice (some ⟨F, 0, none⟩) n n) ∧ W.cell? ⟨P10, 0, none⟩ = some (.int .i64 (u : Int)) ∧ W.cell? ⟨F, vN, none⟩ = some (.int .i64 dv) ∧ W.cell? ⟨F, u, none⟩ = some (.int .i64 du)) 9 (by kernel_rfl) ?_
        refine wpAnyU_takeAt 0 (some 30) (v := ?_) (by kernel_rfl) rfl (by kernel_rfl) (by kernel_rfl) (by kernel_rfl) (by kernel_rfl) (by kernel_rfl) (fun _ _ _ h => h) (by exact ⟨c8, c10, cV, cU⟩) (fun o hop w => by injection hop with hop; subst hop; rfl) (fun o hop => ?_) ?_
        rotate_left
        · injection hop with hop
          subst hop
          refine ⟨rfl, fun W hW => ?_⟩
          obtain ⟨s0, s1, s2, s3⟩ := hW
          go_simp
          first
          | done
          | rfl
        try simp only [Act.put, List.setIfInBounds_toArray, List.set_cons_zero, List.set_cons_succ]
        refine wpAnyU_takeAt 1 (some 31) (v := ?_) (by kernel_rfl) rfl (by kernel_rfl) (by kernel_rfl) (by kernel_rfl) (by kernel_rfl) (by kernel_rfl) (fun _ _ _ h => h) (by exact ⟨c8, c10, cV, cU⟩) (fun o hop w => by injection hop with hop; subst hop; rfl) (fun o hop => ?_) ?_
        rotate_left
        · injection hop with hop
          subst hop
          refine ⟨rfl, fun W hW => ?_⟩
          obtain ⟨s0, s1, s2, s3⟩ := hW
          go_simp
          first
          | done
          | rfl
        try simp only [Act.put, List.setIfInBounds_toArray, List.set_cons_zero, List.set_cons_succ]
        refine wpAnyU_takeAt 2 (some 32) (v := ?_) (by kernel_rfl) rfl (by kernel_rfl) (by kernel_rfl) (by kernel_rfl) (by kernel_rfl) (by kernel_rfl) (fun _ _ _ h => h) (by exact ⟨c8, c10, cV, cU⟩) (fun o hop w => by injection hop with hop; subst hop; rfl) (fun o hop => ?_) ?_
        rotate_left
        · injection hop with hop
          subst hop
          refine ⟨rfl, fun W hW => ?_⟩
          obtain ⟨s0, s1, s2, s3⟩ := hW
          go_simp
          first
          | done
          | rfl
        try simp only [Act.put, List.setIfInBounds_toArray, List.set_cons_zero, List.set_cons_succ]
        refine wpAnyU_takeAt 3 (some 33) (v := ?_) (by kernel_rfl) rfl (by kernel_rfl) (by kernel_rfl) (by kernel_rfl) (by kernel_rfl) (by kernel_rfl) (fun _ _ _ h => h) (by exact ⟨c8, c10, cV, cU⟩) (fun o hop w => by injection hop with hop; subst hop; rfl) (fun o hop => ?_) ?_
        rotate_left
        · injection hop with hop
          subst hop
          refine ⟨rfl, fun W hW => ?_⟩
          obtain ⟨s0, s1, s2, s3⟩ := hW
          go_simp
          first
          | done
          | rfl
        try simp only [Act.put, List.setIfInBounds_toArray, List.set_cons_zero, List.set_cons_succ]
        refine wpAnyU_takeAt 4 (some 34) (v := ?_) (by kernel_rfl) rfl (by kernel_rfl) (by kernel_rfl) (by kernel_rfl) (by kernel_rfl) (by kernel_rfl) (fun _ _ _ h => h) (by exact ⟨c8, c10, cV, cU⟩) (fun o hop w => by injection hop with hop; subst hop; rfl) (fun o hop => ?_) ?_
        rotate_left
        · injection hop with hop
          subst hop
          refine ⟨rfl, fun W hW => ?_⟩
          obtain ⟨s0, s1, s2, s3⟩ := hW
          go_simp
          first
          | done
          | rfl
        try simp only [Act.put, List.setIfInBounds_toArray, List.set_cons_zero, List.set_cons_succ]
        refine wpAnyU_takeAt 5 (some 35) (v := ?_) (by kernel_rfl) rfl (by kernel_rfl) (by kernel_rfl) (by kernel_rfl) (by kernel_rfl) (by kernel_rfl) (fun _ _ _ h => h) (by exact ⟨c8, c10, cV, cU⟩) (fun o hop w => by injection hop with hop; subst hop; rfl) (fun o hop => ?_) ?_
        rotate_left
        · injection hop with hop
          subst hop
          refine ⟨rfl, fun W hW => ?_⟩
          obtain ⟨s0, s1, s2, s3⟩ := hW
          go_simp
          first
          | done
          | rfl
        try simp only [Act.put, List.setIfInBounds_toArray, List.set_cons_zero, List.set_cons_succ]
        refine wpAnyU_takeAt 6 (some 36) (v := ?_) (by kernel_rfl) rfl (by kernel_rfl) (by kernel_rfl) (by kernel_rfl) (by kernel_rfl) (by kernel_rfl) (fun _ _ _ h => h) (by exact ⟨c8, c10, cV, cU⟩) (fun o hop w => by injection hop with hop; subst hop; rfl) (fun o hop => ?_) ?_
        rotate_left
        · injection hop with hop
          subst hop
          refine ⟨rfl, fun W hW => ?_⟩
          obtain ⟨s0, s1, s2, s3⟩ := hW
          go_simp
          first
          | done
          | rfl
        try simp only [Act.put, List.setIfInBounds_toArray, List.set_cons_zero, List.set_cons_succ]
        refine wpAnyU_takeAt 7 (some 37) (v := ?_) (by kernel_rfl) rfl (by kernel_rfl) (by kernel_rfl) (by kernel_rfl) (by kernel_rfl) (by kernel_rfl) (fun _ _ _ h => h) (by exact ⟨c8, c10, cV, cU⟩) (fun o hop w => by injection hop with hop; subst hop; rfl) (fun o hop => ?_) ?_
        rotate_left
        · injection hop with hop
          subst hop
          refine ⟨rfl, fun W hW => ?_⟩
          obtain ⟨s0, s1, s2, s3⟩ := hW
          go_simp
          first
          | done
          | rfl
        try simp only [Act.put, List.setIfInBounds_toArray, List.set_cons_zero, List.set_cons_succ]
        refine wpAnyU_takeAt 8 (some 38) (v := ?_) (by kernel_rfl) rfl (by kernel_rfl) (by kernel_rfl) (by kernel_rfl) (by kernel_rfl) (by kernel_rfl) (fun _ _ _ h => h) (by exact ⟨c8, c10, cV, cU⟩) (fun o hop w => by injection hop with hop; subst hop; rfl) (fun o hop => ?_) ?_
        rotate_left
        · injection hop with hop
          subst hop
          refine ⟨rfl, fun W hW => ?_⟩
          obtain ⟨s0, s1, s2, s3⟩ := hW
          go_simp
          first
          | done
          | rfl
        try simp only [Act.put, List.setIfInBounds_toArray, List.set_cons_zero, List.set_cons_succ]
        refine wpAnyU_one (i := 9) (by kernel_rfl) rfl rfl (fun K' hK => ?_)
        go_simp
        refine hK.out _ _ (fun h => absurd rfl h) ?_
        clear hK K'
        refine wpAnyU_done (by kernel_rfl) ?_ _
        by_cases hc : dv = du - 1
        · have hbq : (dv == du - 1) = true := beq_iff_eq.2 hc
          have HBQ := hide' hbq
          have hdl : dn.length ≤ 1000 := by have := HLEN.out; omega
          obtain ⟨X1, hX1⟩ : ∃ X1, X1 = X.drew := ⟨_, rfl⟩
          rw [← hX1]
          have hst1 : WayP X1 F w1.heap.size (w1.heap.size + 1) P10 w1.heap.size n (farL n links (y : Int)) (u : Int) lv dn := by rw [hX1]; exact h1.out.grow (fun _ _ _ _ h => h)
          have h11' : X1.heap[P11]? = some (.cells #[.bool xl.1.1.tie, .int .i64 xl.1.1.no] 45 (0, 0)) := by rw [hX1]; exact HH11.out
          obtain ⟨c9, f9⟩ := cell1 hst1.h9
          have p0 : X1.cell? ⟨P11, 0, none⟩ = some (.bool xl.1.1.tie) := by simp only [World.cell?, h11']; rfl
          have p1 : X1.cell? ⟨P11, 1, none⟩ = some (.int .i64 xl.1.1.no) := by simp only [World.cell?, h11']; rfl
          have HX1 : Hid (KeepsOthers X X1 ∧ Below w.heap.size w X1 ∧ X1.heap.size = X.heap.size ∧ X1.heap[w.heap.size]? = X.heap[w.heap.size]?) := by rw [hX1]; exact ⟨KeepsOthers.drew _, h3.out.drew, rfl, rfl⟩
          have hgr := hst1.own
          have HS1 := hide' hst1
          have HSZ : Hid (w1.heap.size < X1.heap.size) := (Array.getElem?_eq_some_iff.1 hst1.h8).1
          have HCN := hide' (cell_news X1 [.bool xl.1.1.tie, .int .i64 xl.1.1.no] 45)
          clear hX1 hst1 c8 c10 cV cU f8 f10 fV fU h11' hc hdr
          obtain ⟨i0, hi0, hzz0, hzz1, hzz2⟩ := info_parts Tryz.info45
          gi_wp2_with (gi_at_builtin; (refine wpListIn_append_own _ rfl _ _ 41 rfl w1.heap.size 45 i0 _ 2 16 Tryz.underlying41 hi0 hzz0 hzz1 hzz2 rfl (by decide) _ _ _ rfl (hgr.alloc _) ⟨X1.heap.size, 0, none⟩ 1 1 [.bool xl.1.1.tie, .int .i64 xl.1.1.no] rfl rfl HCN.out hop_one (by unfold maxLen; show dn.length + 1 ≤ _; omega) (by show (dn.length + 1) * 16 ≤ _; omega) (by have := HSZ.out; rw [World.size_alloc]; omega) ?_; intro v' w3 hown' hgrow _; refine Still.go ?_))
          unfold Still
          have hg3 : (X1.alloc (.cells #[.bool xl.1.1.tie, .int .i64 xl.1.1.no] 45)).grownBy w3 lv.ownBlock := hgrow
          obtain ⟨a3, c3, rfl⟩ := own_slice hown'
          have hpush := HS1.out.push hg3 hown' (vN : Int)
          have k9 := HS1.out.same hg3 (by decide) HS1.out.h9
          have k10 := HS1.out.same hg3 (by decide) HS1.out.h10
          obtain ⟨c9', f9'⟩ := cell1 k9
          obtain ⟨c10', f10'⟩ := cell1 k10
          have hsz := HX1.out.2.2.1
          have hsz1 := HSZ.out
          have hs3 := hg3.size
          rw [World.size_alloc] at hs3
          have hwb := HBW1.out.size
          have hfw := HFW.out
          have h10w : w.heap.size < P10 ∨ P10 < w.heap.size ∨ P10 = w.heap.size := by omega
          have hne10 : P10 ≠ w.heap.size := fun e => by
            have h9 := HS1.out.h10
            rw [e, HX1.out.2.2.2, h6.out] at h9
            cases h9
          have HEND : Hid (KeepsOthers X ((w3.setCell ⟨w1.heap.size + 1, 0, none⟩ (.slice a3 (dn.length + 1) c3)).setCell ⟨P10, 0, none⟩ (.int .i64 (vN : Int))) ∧ Below w.heap.size w ((w3.setCell ⟨w1.heap.size + 1, 0, none⟩ (.slice a3 (dn.length + 1) c3)).setCell ⟨P10, 0, none⟩ (.int .i64 (vN : Int))) ∧ w2.heap.size ≤ ((w3.setCell ⟨w1.heap.size + 1, 0, none⟩ (.slice a3 (dn.length + 1) c3)).setCell ⟨P10, 0, none⟩ (.int .i64 (vN : Int))).heap.size ∧ ((w3.setCell ⟨w1.heap.size + 1, 0, none⟩ (.slice a3 (dn.length + 1) c3)).setCell ⟨P10, 0, none⟩ (.int .i64 (vN : Int))).heap[w.heap.size]? = some (.cells #[.int .i64 n, .slice a links.length cap] 58 (0, 0))) := by
            refine ⟨?_, ?_, ?_, ?_⟩
            · refine HX1.out.1.trans ((KeepsOthers.alloc _ _).trans ((KeepsOthers.of_grownBy hg3 (fun j o e ho => ?_)).trans ((KeepsOthers.setCell _ _ _).trans (KeepsOthers.setCell _ _ _))))
              obtain ⟨cur, fz, h9⟩ := own_type (hgr.alloc (.cells #[.bool xl.1.1.tie, .int .i64 xl.1.1.no] 45)) e
              rw [h9] at ho
              cases ho
              rfl
            · refine (((HX1.out.2.1.alloc HX1.out.2.1.size _).grown hg3 ?_ (fun k e => by have := own_at hgr k e; omega)).setCell (p := ⟨w1.heap.size + 1, 0, none⟩) (by show w.heap.size ≤ w1.heap.size + 1; omega) _).setCell (p := ⟨P10, 0, none⟩) ?_ _
              · rw [World.size_alloc]; have := HX1.out.2.1.size; omega
              · exact HP10.out
            · rw [World.size_setCell, World.size_setCell]
              have := h5.out
              omega
            · rw [Below.heap_setCell _ _ _ _ (fun e => hne10 e.symm), Below.heap_setCell _ _ _ _ (by show w.heap.size ≠ w1.heap.size + 1; omega)]
              refine HS1.out.same hg3 (by decide) ?_
              rw [HX1.out.2.2.2]
              exact h6.out
          have n9 : P10 ≠ w1.heap.size + 1 := fun e => by rw [← e, k10] at k9; cases k9
          have c10s : (w3.setCell ⟨w1.heap.size + 1, 0, none⟩ (.slice a3 (dn.length + 1) c3)).cell? ⟨P10, 0, none⟩ = some (.int .i64 (u : Int)) := by
            rw [World.cell?_of_block (Below.heap_setCell _ _ _ _ n9)]; exact c10'
          have f10s : (w3.setCell ⟨w1.heap.size + 1, 0, none⟩ (.slice a3 (dn.length + 1) c3)).frozen? ⟨P10, 0, none⟩ = false := (cell1 ((Below.heap_setCell _ _ _ _ n9).trans k10)).2
          have HPU := hide' hpush
          clear hpush hgrow hg3 hown' k9 k10 hsz hs3 hsz1 hwb hfw h10w
          gi_wp2
          refine ⟨HEND.out.1.from _, pre, xl, .slice a3 (dn.length + 1) c3, rfl, rfl, h2.out, HIS.out.trans HBQ.out, ?_, HEND.out.2.1, HEND.out.2.2.1, HEND.out.2.2.2, h7.out.kept (fun k o hk ho => HEND.out.1.same k o hk ho)⟩
          rw [HVN.out]
          exact HPU
        · have hbq : (dv == du - 1) = false := beq_eq_false_iff_ne.2 hc
          have HBQ := hide' hbq
          gi_wp2
          refine ⟨(KeepsOthers.drew _).from _, ⟨Nat.le_refl _, fun _ _ => rfl⟩, h1.out.grow (fun _ _ _ _ h => h), fun y hy => ?_, h3.out.drew, h4, h5, h6, h7.out.1, h7.out.2⟩
          rcases List.mem_append.1 hy with hy | hy
          · exact h2.out y hy
          · rw [List.mem_singleton.1 hy, HIS.out]; exact HBQ.out
end Go.Proofs.YtjcpcjickdcpmacGreatDoor.Bar

/- The program's Way over any network. -/
namespace Go.Proofs.YtjcpcjickdcpmacGreatDoor.Bar
open Go.RowKit Go.Shelf Doc

theorem has_yes (n : Nat) (lv : Value) (a : Int) (h1 : 0 ≤ a) (h2 : a < n) (w : World) :
    Calls Tryz.prog 12 #[.agg #[.int .i64 n, lv], .int .i64 a] w fun e w' => e = .returned (.bool true) ∧ w' = w.alloc (.cells #[.int .i64 n, lv] 58) := by
  go_enter Tryz.func12, Tryz.ntmps12
  go_wp2
  go_ret
  exact ⟨rfl, rfl⟩
theorem has_no (n : Nat) (lv : Value) (a : Int) (h : ¬ (0 ≤ a ∧ a < n)) (w : World) :
    Calls Tryz.prog 12 #[.agg #[.int .i64 n, lv], .int .i64 a] w fun e w' => e = .returned (.bool false) ∧ w' = w.alloc (.cells #[.int .i64 n, lv] 58) := by
  by_cases h1 : 0 ≤ a
  · have h2 : ¬ a < n := fun h2 => h ⟨h1, h2⟩
    clear h
    go_enter Tryz.func12, Tryz.ntmps12
    go_wp2
    go_ret
    exact ⟨rfl, rfl⟩
  · clear h
    go_enter Tryz.func12, Tryz.ntmps12
    go_wp2
    go_ret
    exact ⟨rfl, rfl⟩
theorem service_len {N : NetM} (hf : Fits N) (out : List Bool) : (serviceL N out).length ≤ 1000 := by
  have h1 := linksN_len N.lines out N.lines.length
  have h2 := linksT_len N.ties N.ties.length
  have h3 := hf.2.1
  have h4 := hf.2.2.2.2
  rw [serviceL, List.length_append]
  omega

set_option maxRecDepth 100000 in
set_option maxHeartbeats 4000000 in
theorem Way_any (N : NetM) (B1 : Nat) (b l g d t outv : Value) (out : List Bool) (p q : Int) (ls : List LinkM) (code : Int) (mx : Int) (w : World) (hsm : SmallM N) (htb : TabAll w) (ho : Owns w B1 b l g d t N) (hm : w.cell? ⟨1, 0, none⟩ = some (.int .i64 mx)) (hor : RowAt w outv out.length 1 (out.map Value.bool)) (hol : out.length ≤ 2000000) (hw : WayIs N out p q ls code) :
    Calls Tryz.prog 8 #[.agg #[.string N.name, b, l, g, d, t], outv, .int .i64 p, .int .i64 q] w fun e w' => AnswersH ls code w e w' := by
  obtain ⟨ab, cb, rfl⟩ := own_slice ho.hb
  obtain ⟨al, cl, rfl⟩ := own_slice ho.hl
  obtain ⟨ag, cg, rfl⟩ := own_slice ho.hg
  obtain ⟨ad, cd, rfl⟩ := own_slice ho.hd
  obtain ⟨at', ct, rfl⟩ := own_slice ho.ht
  obtain ⟨W, hW⟩ : ∃ W, W = w.alloc (.cells #[.string N.name, .slice ab N.buses.length cb, .slice al N.lines.length cl, .slice ag N.gens.length cg, .slice ad N.loads.length cd, .slice at' N.ties.length ct] 33) := ⟨_, rfl⟩
  have hbW : Below w.heap.size w W := by rw [hW]; exact (Below.refl _ w).alloc (Nat.le_refl _) _
  have hoW : Owns W B1 (.slice ab N.buses.length cb) (.slice al N.lines.length cl) (.slice ag N.gens.length cg) (.slice ad N.loads.length cd) (.slice at' N.ties.length ct) N := by
    rw [hW]
    exact ⟨ho.hb.alloc _, ho.hl.alloc _, ho.hg.alloc _, ho.hd.alloc _, ho.ht.alloc _⟩
  have HIS := hide' (inService_any N B1 _ _ _ _ _ outv out mx W hsm (htb.later hbW) hoW ((hbW.cell (p := ⟨1, 0, none⟩) (World.block_lt_of_cell? w _ hm)).trans hm) (RowAt.below hor hbW (Nat.le_refl _)) hol)
  have HW := hide' hW
  have HBW := hide' hbW
  have HWI := hide' hw
  clear hW hoW hm htb hsm hor hbW ho hw
  go_enter Tryz.func8, Tryz.ntmps8
  go_wp2_with fail
  rw [← HW.out]
  refine HIS.out.mono ?_
  rintro e w1 ⟨hb1, h1, h2, h3⟩
  have HB1 : Hid (Below w.heap.size w w1) := HBW.out.trans (hb1.mono HBW.out.size)
  clear hb1 HIS
  rcases HWI.out with ⟨hno, rfl, rfl⟩ | ⟨hm, hne, rfl, rfl⟩ | ⟨hm, heq, hr, rfl, rfl⟩ | ⟨hm, heq, x, y, rfl, rfl, hx, hy, hf, rfl, rfl⟩ | ⟨hm, heq, x, y, rfl, rfl, hx, hy, hf, hl, rfl⟩
  · obtain rfl := h3 hno
    have HB2 : Hid (∀ o, Below w.heap.size w (w1.alloc o)) := fun o => HB1.out.alloc HB1.out.size o
    clear h1 h2 h3 hno HWI
    go_wp2
    refine bodyPost_ret (results_tmp2 rfl _ _ _) rfl ?_
    exact answersH_nil (HB2.out _)
  · obtain rfl := h2 hm hne
    have HB2 : Hid (∀ o, Below w.heap.size w (w1.alloc o)) := fun o => HB1.out.alloc HB1.out.size o
    clear h1 h2 h3 hm hne HWI
    go_wp2
    refine bodyPost_ret (results_tmp2 rfl _ _ _) rfl ?_
    exact answersH_nil (HB2.out _)
  · obtain ⟨a, c, rfl, hrow⟩ := h1 hm heq
    obtain ⟨W2, hW2⟩ : ∃ W2, W2 = w1.alloc (.cells #[.int .i64 N.buses.length, .slice a (serviceL N out).length c] 58) := ⟨_, rfl⟩
    have HB2 : Hid (Below w.heap.size w W2) := by rw [hW2]; exact HB1.out.alloc HB1.out.size _
    by_cases hp : 0 ≤ p ∧ p < N.buses.length
    · have hq : ¬ (0 ≤ q ∧ q < N.buses.length) := fun h => hr ⟨hp.1, hp.2, h.1, h.2⟩
      have HC1 := hide' (has_yes N.buses.length (.slice a (serviceL N out).length c) p hp.1 hp.2 W2)
      obtain ⟨W3, hW3⟩ : ∃ W3, W3 = W2.alloc (.cells #[.int .i64 N.buses.length, .slice a (serviceL N out).length c] 58) := ⟨_, rfl⟩
      have HC2 := hide' (has_no N.buses.length (.slice a (serviceL N out).length c) q hq W3)
      have HB3 : Hid (Below w.heap.size w W3) := by rw [hW3]; exact HB2.out.alloc HB2.out.size _
      have hbx : W2.heap[w1.heap.size]? = some (.cells #[.int .i64 N.buses.length, .slice a (serviceL N out).length c] 58 (0, 0)) := by rw [hW2]; exact World.alloc_heap_new w1 _
      have c0 : W3.cell? ⟨w1.heap.size, 0, none⟩ = some (.int .i64 N.buses.length) := by
        rw [hW3, World.cell?_of_block (Below.heap_alloc _ _ _ (Array.getElem?_eq_some_iff.1 hbx).1)]; simp only [World.cell?, hbx]; rfl
      have c1 : W3.cell? ⟨w1.heap.size, 1, none⟩ = some (.slice a (serviceL N out).length c) := by
        rw [hW3, World.cell?_of_block (Below.heap_alloc _ _ _ (Array.getElem?_eq_some_iff.1 hbx).1)]; simp only [World.cell?, hbx]; rfl
      have HW2 := hide' hW2
      have HW3 := hide' hW3
      clear h1 h2 h3 hm heq HWI hr hp hq hrow hW2 hW3 hbx
      go_wp2_with fail
      rw [← HW2.out]
      refine HC1.out.mono ?_
      rintro e w4 ⟨rfl, hw4⟩
      rw [← HW3.out] at hw4
      subst hw4
      go_wp2_with fail
      refine HC2.out.mono ?_
      rintro e w5 ⟨rfl, hw5⟩
      have HB5 : Hid (Below w.heap.size w w5) := by rw [hw5]; exact HB3.out.alloc HB3.out.size _
      clear hw5
      go_wp2
      refine bodyPost_ret (results_tmp2 rfl _ _ _) rfl ?_
      exact answersH_nil HB5.out
    · have HC1 := hide' (has_no N.buses.length (.slice a (serviceL N out).length c) p hp W2)
      have HW2 := hide' hW2
      clear h1 h2 h3 hm heq HWI hr hp hrow hW2
      go_wp2_with fail
      rw [← HW2.out]
      refine HC1.out.mono ?_
      rintro e w4 ⟨rfl, hw4⟩
      have HB4 : Hid (Below w.heap.size w w4) := by rw [hw4]; exact HB2.out.alloc HB2.out.size _
      clear hw4
      go_wp2
      refine bodyPost_ret (results_tmp2 rfl _ _ _) rfl ?_
      exact answersH_nil HB4.out
  all_goals
    obtain ⟨a, c, rfl, hrow⟩ := h1 hm heq
    obtain ⟨W2, hW2⟩ : ∃ W2, W2 = w1.alloc (.cells #[.int .i64 N.buses.length, .slice a (serviceL N out).length c] 58) := ⟨_, rfl⟩
    have HB2 : Hid (Below w.heap.size w W2) := by rw [hW2]; exact HB1.out.alloc HB1.out.size _
    have HC1 := hide' (has_yes N.buses.length (.slice a (serviceL N out).length c) (x : Int) (by omega) (by omega) W2)
    obtain ⟨W3, hW3⟩ : ∃ W3, W3 = W2.alloc (.cells #[.int .i64 N.buses.length, .slice a (serviceL N out).length c] 58) := ⟨_, rfl⟩
    have HC2 := hide' (has_yes N.buses.length (.slice a (serviceL N out).length c) (y : Int) (by omega) (by omega) W3)
    have HB3 : Hid (Below w.heap.size w W3) := by rw [hW3]; exact HB2.out.alloc HB2.out.size _
    obtain ⟨W4, hW4⟩ : ∃ W4, W4 = W3.alloc (.cells #[.int .i64 N.buses.length, .slice a (serviceL N out).length c] 58) := ⟨_, rfl⟩
    have hbx : W2.heap[w1.heap.size]? = some (.cells #[.int .i64 N.buses.length, .slice a (serviceL N out).length c] 58 (0, 0)) := by rw [hW2]; exact World.alloc_heap_new w1 _
    have hb3 : W3.heap[w1.heap.size]? = some (.cells #[.int .i64 N.buses.length, .slice a (serviceL N out).length c] 58 (0, 0)) := by rw [hW3]; exact (Below.heap_alloc _ _ _ (Array.getElem?_eq_some_iff.1 hbx).1).trans hbx
    have hb4 : W4.heap[w1.heap.size]? = some (.cells #[.int .i64 N.buses.length, .slice a (serviceL N out).length c] 58 (0, 0)) := by rw [hW4]; exact (Below.heap_alloc _ _ _ (Array.getElem?_eq_some_iff.1 hb3).1).trans hb3
    have c0 : W3.cell? ⟨w1.heap.size, 0, none⟩ = some (.int .i64 N.buses.length) := by simp only [World.cell?, hb3]; rfl
    have c1 : W3.cell? ⟨w1.heap.size, 1, none⟩ = some (.slice a (serviceL N out).length c) := by simp only [World.cell?, hb3]; rfl
    have d0 : W4.cell? ⟨w1.heap.size, 0, none⟩ = some (.int .i64 N.buses.length) := by simp only [World.cell?, hb4]; rfl
    have d1 : W4.cell? ⟨w1.heap.size, 1, none⟩ = some (.slice a (serviceL N out).length c) := by simp only [World.cell?, hb4]; rfl
    have HB4 : Hid (Below w.heap.size w W4) := by rw [hW4]; exact HB3.out.alloc HB3.out.size _
    have HWY := hide' (way_any N.buses.length (by have := hm.fits.1; omega) (serviceL N out) (service_len hm.fits out) (service_ends (MayM.ends hm) out) a c x y hx hy W4 (RowAt.below hrow (by
      rw [hW4, hW3, hW2]
      exact (((Below.refl _ w1).alloc (Nat.le_refl _) _).alloc (by simp) _).alloc (by simp; omega) _) (Nat.le_refl _)))
    have HF := hide' hf
    have HW2 := hide' hW2
    have HW3 := hide' hW3
    have HW4 := hide' hW4
    clear h1 h2 h3 hm heq HWI hrow hW2 hW3 hW4 hbx hb3 hb4 hf
    go_wp2_with fail
    rw [← HW2.out]
    refine HC1.out.mono ?_
    rintro e w4 ⟨rfl, hw4⟩
    rw [← HW3.out] at hw4
    subst hw4
    go_wp2_with fail
    refine HC2.out.mono ?_
    rintro e w5 ⟨rfl, hw5⟩
    rw [← HW4.out] at hw5
    subst hw5
    go_wp2_with fail
    refine HWY.out.mono ?_
    rintro e w6 ⟨hn, hy6⟩
  · obtain ⟨aa, cc, rfl, hrow, hb6⟩ := hn HF.out
    have HA : Hid (AnswersH [] 10 w (.returned (.tuple #[.slice aa 0 cc, .int .i64 10])) w6) := ⟨aa, cc, rfl, hrow, HB4.out.trans (hb6.mono HB4.out.size)⟩
    clear hn hy6 hrow hb6
    go_wp2
    refine bodyPost_ret (results_tmp2 rfl _ _ _) rfl ?_
    exact HA.out
  · obtain ⟨aa, cc, rfl, hrow, hb6⟩ := hy6 HF.out
    rw [← hl] at hrow ⊢
    have HA : Hid (AnswersH ls 0 w (.returned (.tuple #[.slice aa ls.length cc, .int .i64 0])) w6) := ⟨aa, cc, rfl, hrow, HB4.out.trans (hb6.mono HB4.out.size)⟩
    clear hn hy6 hrow hb6 hl
    go_wp2
    refine bodyPost_ret (results_tmp2 rfl _ _ _) rfl ?_
    exact HA.out
end Go.Proofs.YtjcpcjickdcpmacGreatDoor.Bar
