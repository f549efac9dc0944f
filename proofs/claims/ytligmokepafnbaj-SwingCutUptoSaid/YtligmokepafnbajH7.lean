/- Many steps, in the document. -/
import Derived.Test.YtligmokepafnbajH6
namespace Go.Proofs.Ytligmokepafnbaj
open Go.RowKit Go.Shelf

def StM.pair (s : StM) : Nat × Nat := (s.lim, s.part)
theorem atWork_pair (l : List (Nat × Nat)) (g : List Bool) (h : g.length = l.length) : (atWorkS l g).map StM.pair = l := by
  unfold atWorkS
  rw [List.map_map]
  have : (StM.pair ∘ fun p : (Nat × Nat) × Bool => (⟨p.1.1, p.1.2, p.2⟩ : StM)) = Prod.fst := by funext p; rfl
  rw [this, List.map_fst_zip (by omega)]
theorem watch_pair (S : List StM) (f : Option Nat) : (watchS S f).map StM.pair = S.map StM.pair := by
  unfold watchS
  rw [List.map_map]
  rfl
theorem watch_at (S : List StM) (f : Option Nat) {k : Nat} (h : k < S.length) : (watchS S f)[k]'(by rw [watch_len]; exact h) = S[k].see f := by simp [watchS]
theorem fold_pair (damp mass dt : Option Nat) (xs : List (Nat × Nat)) : ∀ (S : List StM) (f : Option Nat), (xs.foldl (stepS damp mass dt) (S, f)).1.map StM.pair = S.map StM.pair := by
  induction xs with
  | nil => intro S f; rfl
  | cons x r ih =>
    intro S f
    rw [List.foldl_cons]
    exact (ih _ _).trans (watch_pair _ _)
theorem atWork_gone (l : List (Nat × Nat)) (g : List Bool) (h : g.length = l.length) : (atWorkS l g).map StM.gone = g := by
  unfold atWorkS
  rw [List.map_map]
  have : (StM.gone ∘ fun p : (Nat × Nat) × Bool => (⟨p.1.1, p.1.2, p.2⟩ : StM)) = Prod.snd := by funext p; rfl
  rw [this, List.map_snd_zip (by omega)]

/-- Where the document's blocks lie: the answer's, the signs', the told row's. -/
structure DB (w wr : World) (A : Nat) (gv : Value) (gl : List Bool) (ov : Value) (tl : List Nat) : Prop where
  hA : wr.heap[A]? = some (.cells zero2 25 (0, 0))
  sA : w.heap.size ≤ A
  hG : wr.ownsRow w.heap.size 4 1 gv gl.length (gl.map Value.bool)
  hO : wr.ownsRow w.heap.size 22 1 ov tl.length (fls tl)
  bel : Below w.heap.size w wr
theorem DB.drewN {w wr : World} {A : Nat} {gv ov : Value} {gl : List Bool} {tl : List Nat} (h : DB w wr A gv gl ov tl) (m : Nat) : DB w (wr.drewN m) A gv gl ov tl := ⟨h.hA, h.sA, h.hG, h.hO, below_drewN h.bel m⟩
theorem own_bool_put {w : World} {B G n cg : Nat} {l : List Bool} (h : w.ownsRow B 4 1 (.slice (some ⟨G, 0, none⟩) n cg) n (l.map Value.bool)) (p : Nat) (x : Bool) : (w.setCell ⟨G, p, none⟩ (.bool x)).ownsRow B 4 1 (.slice (some ⟨G, 0, none⟩) n cg) n ((l.set p x).map Value.bool) := by
  have hl : l.length = n := by have := h.1; rw [List.length_map] at this; omega
  rcases h.2 with ⟨h1, _⟩ | ⟨g, cap, cur, h1, h0, h2, h3, h3', h4, h5⟩
  · cases h1
  · cases h1
    refine ⟨by rw [List.length_map, List.length_set]; omega, .inr ⟨G, cg, _, rfl, h0, set_any h2 p _, h3, h3', by simpa using h4, ?_⟩⟩
    rw [Array.toList_setIfInBounds, List.take_set, h5, List.map_set]
theorem DB.set {w wr : World} {A G gn gc : Nat} {ov : Value} {gl : List Bool} {tl : List Nat} (h : DB w wr A (.slice (some ⟨G, 0, none⟩) gn gc) gl ov tl) (hn : gl.length = gn) (p : Nat) (x : Bool) : DB w (wr.setCell ⟨G, p, none⟩ (.bool x)) A (.slice (some ⟨G, 0, none⟩) gn gc) (gl.set p x) ov tl := by
  subst hn
  obtain ⟨cur, hc⟩ := own_blk h.hG
  have hk := keep_set hc p (.bool x)
  refine ⟨(hk A _ _ _ h.hA (by decide)).trans h.hA, h.sA, ?_, own_keep h.hO hk (by decide), h.bel.setCell (p := ⟨G, p, none⟩) (own_at h.hG G rfl) _⟩
  have h1 := own_bool_put h.hG p x
  rw [List.length_set]
  exact h1
theorem DB.more {w wr wr' : World} {A : Nat} {gv ov : Value} {gl : List Bool} {tl : List Nat} (h : DB w wr A gv gl ov tl) (hb : Below wr.heap.size wr wr') : DB w wr' A gv gl ov tl :=
  ⟨(hb.block A (lt_heap h.hA)).trans h.hA, h.sA, own_below h.hG hb (Nat.le_refl _), own_below h.hO hb (Nat.le_refl _), h.bel.trans (hb.mono h.bel.size)⟩
theorem DB.app {w wr wr' : World} {A : Nat} {gv ov ov' : Value} {gl : List Bool} {tl : List Nat} {x : Nat} {o : Obj} (h : DB w wr A gv gl ov tl) (ho : wr'.ownsRow w.heap.size 22 1 ov' (tl ++ [x]).length (fls (tl ++ [x]))) (hg : (wr.alloc o).grownBy wr' ov.ownBlock) : DB w wr' A gv gl ov' (tl ++ [x]) := by
  have h2 := h.more (below_al wr o)
  have hk := KeepE.grown h2.hO hg
  exact ⟨(hk A _ _ _ h2.hA (by decide)).trans h2.hA, h2.sA, own_keep h2.hG hk (by decide), ho, below_app h.bel h.hO (Nat.le_refl _) h.bel.size hg⟩

attribute [local go_sem] run_fadd run_fsub run_fmul run_fquo run_store_float

set_option maxRecDepth 100000 in
set_option maxHeartbeats 4000000 in
theorem RunOf_any (f damp mass dt : Nat) (md dr : List Nat) (l : List (Nat × Nat)) (g : List Bool) (vm vd vl vg : Value) (w : World)
    (hm : RowAt w vm md.length 1 (fls md)) (hd : RowAt w vd dr.length 1 (fls dr)) (hl : RowAt w vl l.length 2 (l.flatMap sgc)) (hg : RowAt w vg g.length 1 (g.map Value.bool)) :
    Calls Try.prog 10 #[.agg #[.float .f64 f, vg], .float .f64 damp, .float .f64 mass, .float .f64 dt, vm, vd, vl] w (RunO f damp mass dt md dr l g w) := by
  obtain ⟨i4, hi4, h40, h41, h42⟩ := info_parts Try.info4
  obtain ⟨i22, hi22, h220, h221, h222⟩ := info_parts Try.info22
  have HM := hide' hm
  have HD := hide' hd
  have HL := hide' hl
  have HGN := hide' hg
  obtain ⟨am, cm, rfl⟩ := rowAt_slice hm
  obtain ⟨ad, cd, rfl⟩ := rowAt_slice hd
  obtain ⟨al, cl, rfl⟩ := rowAt_slice hl
  obtain ⟨ag, cg, rfl⟩ := rowAt_slice hg
  obtain ⟨R, hR⟩ : ∃ R, R = RunO f damp mass dt md dr l g w := ⟨_, rfl⟩
  have HR := hide' hR
  rw [← hR]
  clear hm hd hl hg hR
  go_enter Try.func10, Try.ntmps10
  go_upto_region 1 with fail
  have HA0 : Hid (((w.alloc (.cells #[.float .f64 f, .slice ag g.length cg] 25)).alloc (.cells #[.float .f64 0, .slice none 0 0] 25)).heap[w.heap.size + 1]? = some (.cells zero2 25 (0, 0)) ∧ ((w.alloc (.cells #[.float .f64 f, .slice ag g.length cg] 25)).alloc (.cells #[.float .f64 0, .slice none 0 0] 25)).heap[w.heap.size]? = some (.cells #[.float .f64 f, .slice ag g.length cg] 25 (0, 0)) ∧ Below w.heap.size w ((w.alloc (.cells #[.float .f64 f, .slice ag g.length cg] 25)).alloc (.cells #[.float .f64 0, .slice none 0 0] 25)) ∧ w.heap.size ≤ w.heap.size + 1) := by
    have hA := alloc_new (w.alloc (.cells #[.float .f64 f, .slice ag g.length cg] 25)) (.cells #[.float .f64 0, .slice none 0 0] 25)
    rw [World.size_alloc] at hA
    exact ⟨hA, (alloc_old _ _ (by simp)).trans (alloc_new _ _), (below_al w _).alloc (by simp) _, by omega⟩
  obtain ⟨w1, hw1⟩ : ∃ x, x = ((w.alloc (.cells #[.float .f64 f, .slice ag g.length cg] 25)).alloc (.cells #[.float .f64 0, .slice none 0 0] 25)) := ⟨_, rfl⟩
  rw [← hw1] at HA0 ⊢
  obtain ⟨A, hA⟩ : ∃ S, S = w.heap.size + 1 := ⟨_, rfl⟩
  rw [← hA] at HA0 ⊢
  obtain ⟨Y, hY⟩ : ∃ S, S = w.heap.size := ⟨_, rfl⟩
  have HA1 : Hid (w1.heap[A]? = some (.cells zero2 25 (0, 0)) ∧ w1.heap[Y]? = some (.cells #[.float .f64 f, .slice ag g.length cg] 25 (0, 0)) ∧ Below w.heap.size w w1 ∧ w.heap.size ≤ A) := by rw [hY]; exact HA0
  rw [show (Value.pointer (some { block := w.heap.size, off := 0 })) = Value.pointer (some { block := Y, off := 0 }) by rw [hY]]
  clear hw1 hA hY HA0
  have y0 : w1.cell? ⟨Y, 0, none⟩ = some (.float .f64 f) := (cells_at HA1.out.2.1 0).trans rfl
  have y1 : w1.cell? ⟨Y, 1, none⟩ = some (.slice ag g.length cg) := (cells_at HA1.out.2.1 1).trans rfl
  by_cases hok : RunMay md dr l g
  · obtain ⟨k1, k2, k3, k4⟩ := hok
    have q1 : ((md.length : Int) != (dr.length : Int)) = false := by rw [k1]; simp
    have q2 : ¬ (50 : Int) < (md.length : Int) := by omega
    have q3 : ¬ (6 : Int) < (l.length : Int) := by omega
    have q4 : ((g.length : Int) != (l.length : Int)) = false := by rw [k4]; simp
    have HOK : Hid (md.length = dr.length ∧ md.length ≤ 50 ∧ l.length ≤ 6 ∧ g.length = l.length) := ⟨k1, k2, k3, k4⟩
    clear k1 k2 k3 k4
    have HGR : Hid (RowAt w1 (.slice ag g.length cg) g.length 1 (g.map Value.bool)) := HGN.out.below HA1.out.2.2.1 (Nat.le_refl _)
    go_wp2_with (at_builtin; refine wpList_append_any _ rfl _ _ 23 rfl w.heap.size 4 i4 _ 1 1 Try.underlying23 hi4 h40 h41 h42 rfl (by decide) _ _ _ rfl (World.ownsRow_nil _ _ _ _) _ _ _ rfl HGR.out (bools_one g) (by have := HOK.out.2.2; unfold maxLen; omega) (by have := HOK.out.2.2; omega) HA1.out.2.2.1.size ?_; intro v1 w2 hown1 hgrow1; refine Still.go ?_)
    unfold Still
    have HO : Hid (w2.ownsRow w.heap.size 4 1 v1 g.length (g.map Value.bool)) := by
      have h1 := hown1
      rw [Nat.zero_add, List.nil_append] at h1
      exact h1
    have hb2 : Below w1.heap.size w1 w2 := (Below.refl _ w1).grown hgrow1 (Nat.le_refl _) (fun k e => by cases e)
    have y2 := up_cell hb2 y0
    obtain ⟨a1, c1, hv1⟩ := own_slice HO.out
    subst hv1
    have HDB : Hid (DB w w2 A (.slice a1 g.length c1) g (.slice none 0 0) []) := ⟨(hb2.block A (lt_heap HA1.out.1)).trans HA1.out.1, HA1.out.2.2.2, HO.out, World.ownsRow_nil _ _ _ _, HA1.out.2.2.1.trans (hb2.mono HA1.out.2.2.1.size)⟩
    clear hown1 hgrow1 hb2 HO HGR HA1 y0 y1
    obtain ⟨n, hn⟩ : ∃ n, n = md.length := ⟨_, rfl⟩
    have HN := hide' hn
    rw [← hn] at HOK q1 q2 ⊢
    clear hn
    rw [HOK.out.2.2.2] at HDB ⊢
    go_wp2_with fail
    go_loopw [18, 19, 20] (fun x o i wr => ∃ (k r : Nat) (tl : List Nat), i = .int .i64 k ∧ x = .float .f64 r ∧ k ≤ n ∧ Hid (nm r = (runS (nm damp) (nm mass) (nm dt) (atWorkS l g) (nm f) (md.zip dr) k).2) ∧ Hid (DB w wr A (.slice a1 l.length c1) ((runS (nm damp) (nm mass) (nm dt) (atWorkS l g) (nm f) (md.zip dr) k).1.map StM.gone) o tl ∧ tl.length = k ∧ tl.map nm = (toldS (nm damp) (nm mass) (nm dt) (atWorkS l g) (nm f) (md.zip dr) k))) (fun _ _ i _ => n - (intOf i).toNat)
    case atStart =>
      refine ⟨0, f, [], rfl, rfl, Nat.zero_le _, rfl, ⟨?_, rfl, rfl⟩⟩
      show DB w w2 A _ ((atWorkS l g).map StM.gone) _ _
      rw [atWork_gone l g HOK.out.2.2.2]
      exact HDB.out
    case round =>
      obtain ⟨k, r, tl, rfl, rfl, hk, HF, HT⟩ := hrel
      obtain ⟨oa, oc, hov⟩ := own_slice HT.out.1.hO
      subst hov
      by_cases hlt : k < n
      · have hlt2 : k < dr.length := by rw [← HOK.out.1]; exact hlt
        have HNX := hide' (runS_next (damp := nm damp) (mass := nm mass) (dt := nm dt) (S := atWorkS l g) (f := nm f) (md := md) (dr := dr) (k := k) (by rw [← HN.out]; exact hlt) (by rw [← HN.out]; exact HOK.out.1.symm))
        have HSL : Hid ((runS (nm damp) (nm mass) (nm dt) (atWorkS l g) (nm f) (md.zip dr) k).1.length = l.length) := (runS_len _ _ _ _ _ _ _).trans (atWork_len l g HOK.out.2.2.2)
        have HSP : Hid ((runS (nm damp) (nm mass) (nm dt) (atWorkS l g) (nm f) (md.zip dr) k).1.map StM.pair = l) := (fold_pair _ _ _ _ _ _).trans (atWork_pair l g HOK.out.2.2.2)
        have HTN := hide' (told_next (nm damp) (nm mass) (nm dt) (atWorkS l g) (nm f) (md.zip dr) k)
        obtain ⟨bm, om, cm', exm, hcm⟩ := fl_cell HM.out k (by rw [← HN.out]; exact hlt)
        cases exm
        obtain ⟨bd, od, cd', exd, hcd⟩ := fl_cell HD.out k hlt2
        cases exd
        obtain ⟨S, hS⟩ : ∃ S, S = (runS (nm damp) (nm mass) (nm dt) (atWorkS l g) (nm f) (md.zip dr) k).1 := ⟨_, rfl⟩
        obtain ⟨F, hF⟩ : ∃ F, F = (runS (nm damp) (nm mass) (nm dt) (atWorkS l g) (nm f) (md.zip dr) k).2 := ⟨_, rfl⟩
        have hpair : (runS (nm damp) (nm mass) (nm dt) (atWorkS l g) (nm f) (md.zip dr) k) = (S, F) := by rw [hS, hF]
        rw [hpair] at HNX
        rw [← hS] at HT HSL HSP
        rw [← hF] at HF
        obtain ⟨x, hx⟩ : ∃ x, x = md.getD k 0 := ⟨_, rfl⟩
        obtain ⟨y, hy⟩ : ∃ y, y = dr.getD k 0 := ⟨_, rfl⟩
        rw [← hx] at hcm HNX
        rw [← hy] at hcd HNX
        have HCM := hide' hcm
        have HCD := hide' hcd
        have HTL : Hid (tl.length = k ∧ tl.map nm = (toldS (nm damp) (nm mass) (nm dt) (atWorkS l g) (nm f) (md.zip dr) k)) := HT.out.2
        have HD0 : Hid (DB w wr A (.slice a1 l.length c1) ((seen S F 0).map StM.gone) (.slice oa tl.length oc) tl) := by show DB _ _ _ _ _ _ _; rw [seen_zero]; exact HT.out.1
        clear hS hF hpair hx hy hcm hcd HT
        go_wp2_with fail
        go_loopw [21, 22] (fun x i w3 => ∃ (kk rs : Nat), i = .int .i64 kk ∧ x = .float .f64 rs ∧ kk ≤ l.length ∧ Hid (nm rs = shedO ((watchS S F).take kk)) ∧ Hid (DB w w3 A (.slice a1 l.length c1) ((seen S F kk).map StM.gone) (.slice oa tl.length oc) tl)) (fun _ i _ => l.length - (intOf i).toNat)
        case atStart => exact ⟨0, 0, rfl, rfl, Nat.zero_le _, nm_some (by decide), HD0.out⟩
        case round =>
          obtain ⟨kk, sh, rfl, rfl, hkk, HSH, HDD⟩ := hrel
          by_cases hll : kk < l.length
          · have hls : kk < S.length := by rw [HSL.out]; exact hll
            have hlw : kk < (watchS S F).length := by rw [watch_len]; exact hls
            have hse : (seen S F kk).length = l.length := (seen_len _ _ _ (by rw [HSL.out]; exact hkk)).trans HSL.out
            have hlk : l[kk] = (S[kk].lim, S[kk].part) := by
              have h1 : (S.map StM.pair)[kk]'(by rw [List.length_map]; exact hls) = l[kk] := by simp only [HSP.out]
              rw [List.getElem_map] at h1
              exact h1.symm
            obtain ⟨bl, ol, cl', exl, hbl, hcl⟩ := row_elem sgc_len HL.out kk hll (by decide)
            cases exl
            rw [hlk] at hcl
            have p0 : wr.cell? ⟨bl, ol + kk * 2, none⟩ = some (.float .f64 S[kk].lim) := up_cell HDD.out.bel (hcl 0 _ rfl)
            have p1 : wr.cell? ⟨bl, ol + kk * 2 + 1, none⟩ = some (.float .f64 S[kk].part) := up_cell HDD.out.bel (hcl 1 _ rfl)
            have HP1 : Hid (∀ W, Below w.heap.size w W → W.cell? ⟨bl, ol + kk * 2 + 1, none⟩ = some (.float .f64 S[kk].part)) := fun W hW => up_cell hW (hcl 1 _ rfl)
            obtain ⟨G, hG⟩ : ∃ G, a1 = some ⟨G, 0, none⟩ := by
              rcases HDD.out.hG.2 with ⟨h1, _⟩ | ⟨g', cap, cur, h1, _⟩
              · exfalso
                simp only [Value.slice.injEq] at h1
                omega
              · simp only [Value.slice.injEq] at h1
                exact ⟨g', h1.1⟩
            subst hG
            have hG4 := HDD.out.hG
            rw [List.length_map, hse] at hG4
            have hgk : ((seen S F kk).map StM.gone)[kk]? = some S[kk].gone := by
              rw [List.getElem?_map, List.getElem?_eq_getElem (by rw [hse]; exact hll), seen_at _ hls]
              rfl
            obtain ⟨c0, fz0⟩ := own_cell hG4 (j := kk) (u := .bool S[kk].gone) (by rw [List.getElem?_map, hgk]; rfl)
            have HO := hide' (order_lt r S[kk].lim)
            rw [HF.out] at HO
            have HSX := hide' (seen_next F hls)
            have HSK := hide' (shed_take hlw)
            have hwk : (watchS S F)[kk] = S[kk].see F := watch_at S F hls
            rw [hwk] at HSK
            have HLEN : Hid (((seen S F kk).map StM.gone).length = l.length) := by show _ = _; rw [List.length_map]; exact hse
            have HSET := hide' (HDD.out.set HLEN.out kk true)
            have hnx : ∀ b, (S[kk].see F).gone = b → (seen S F (kk + 1)).map StM.gone = ((seen S F kk).map StM.gone).set kk b := fun b hb => by rw [HSX.out, List.map_set, hb]
            have HSEL : Hid (∀ b, (S[kk].see F).gone = b → (seen S F (kk + 1)).map StM.gone = ((seen S F kk).map StM.gone).set kk b) := hnx
            have HSAME : Hid (flt F (nm S[kk].lim) = false → (seen S F (kk + 1)).map StM.gone = (seen S F kk).map StM.gone) := fun h => by
              rw [HSX.out, see_on h, ← seen_at F hls, List.set_getElem_self]
            have hsg : (S[kk].see F).gone = (S[kk].gone || flt F (nm S[kk].lim)) := rfl
            have hsp : (S[kk].see F).part = S[kk].part := rfl
            rw [hsg, hsp] at HSK
            obtain ⟨lm, hlm⟩ : ∃ x, x = S[kk].lim := ⟨_, rfl⟩
            obtain ⟨pt, hpt⟩ : ∃ x, x = S[kk].part := ⟨_, rfl⟩
            obtain ⟨go, hgo⟩ : ∃ x, x = S[kk].gone := ⟨_, rfl⟩
            rw [← hsg] at HSK
            have HSG := hide' hsg
            rw [← hlm] at p0 HO HSAME HSG
            rw [← hpt] at p1 HP1 HSK
            rw [← hgo] at c0 HSG
            have c1' : (wr.setCell ⟨G, kk, none⟩ (.bool true)).cell? ⟨G, kk, none⟩ = some (.bool true) := World.cell?_setCell_same _ _ _ c0
            have p2 : (wr.setCell ⟨G, kk, none⟩ (.bool true)).cell? ⟨bl, ol + kk * 2 + 1, none⟩ = some (.float .f64 pt) := HP1.out _ HSET.out.bel
            clear hlm hpt hgo hlw hse hlk hbl hcl hG4 hgk hwk hnx hsg hsp HSX HP1
            cases hb : flt F (nm lm)
            · have hb2 : (FloatKind.f64.format.order r lm == some .lt) = false := by rw [HO.out, hb]
              have HS2 := hide' (HSAME.out hb)
              have HD2 : Hid (DB w wr A (.slice (some ⟨G, 0, none⟩) l.length c1) ((seen S F (kk + 1)).map StM.gone) (.slice oa tl.length oc) tl) := by show DB _ _ _ _ _ _ _; rw [HS2.out]; exact HDD.out
              rw [hb, Bool.or_false] at HSG
              rw [HSG.out] at HSK
              have HDR : Hid (∀ m, DB w (wr.drewN m) A (.slice (some ⟨G, 0, none⟩) l.length c1) ((seen S F (kk + 1)).map StM.gone) (.slice oa tl.length oc) tl) := fun m => HD2.out.drewN m
              clear hb HO HS2 HSAME HSEL HSET HSG HLEN c1' p2
              cases go
              · have HSE : Hid (nm sh = shedO ((watchS S F).take (kk + 1))) := by show _ = _; rw [HSK.out]; exact HSH.out
                clear HSK HSH HDR
                go_wp2
                go_roundw
                case rel => exact ⟨kk + 1, _, by go_num, rfl, by omega, HSE.out, HD2.out⟩
                case measure => simp [intOf]; omega
              · have HSE : Hid (∀ W, nm (fres .add W sh pt) = shedO ((watchS S F).take (kk + 1))) := fun W => by rw [HSK.out, nm_fres, HSH.out]; rfl
                clear HSK HSH HD2
                go_wp2
                go_roundw
                case rel => exact ⟨kk + 1, _, by go_num, rfl, by omega, HSE.out _, HDR.out _⟩
                case measure => simp [intOf]; omega
            · have hb2 : (FloatKind.f64.format.order r lm == some .lt) = true := by rw [HO.out, hb]
              rw [hb, Bool.or_true] at HSG
              rw [HSG.out] at HSK
              have HDR : Hid (∀ m, DB w ((wr.setCell ⟨G, kk, none⟩ (.bool true)).drewN m) A (.slice (some ⟨G, 0, none⟩) l.length c1) ((seen S F (kk + 1)).map StM.gone) (.slice oa tl.length oc) tl) := fun m => by rw [HSEL.out true HSG.out]; exact HSET.out.drewN m
              have HSE : Hid (∀ W, nm (fres .add W sh pt) = shedO ((watchS S F).take (kk + 1))) := fun W => by rw [HSK.out, nm_fres, HSH.out]; rfl
              clear hb HO HSAME HSEL HSET HSG HLEN HSK HSH
              go_wp2
              go_roundw
              case rel => exact ⟨kk + 1, _, by go_num, rfl, by omega, HSE.out _, HDR.out _⟩
              case measure => simp [intOf]; omega
          · have hke : kk = l.length := by omega
            have HSE : Hid (nm sh = shedO (watchS S F)) := by
              show _ = _
              rw [HSH.out, hke, ← HSL.out, ← watch_len S F, List.take_length]
            have HDE : Hid (DB w wr A (.slice a1 l.length c1) ((watchS S F).map StM.gone) (.slice oa tl.length oc) tl) := by
              show DB _ _ _ _ _ _ _
              have h1 := HDD.out
              rw [hke, ← HSL.out, seen_all] at h1
              rw [← HSL.out]
              exact h1
            have d0 : wr.cell? ⟨bm, om + k, none⟩ = some (.float .f64 x) := up_cell HDE.out.bel HCM.out
            have d1 : wr.cell? ⟨bd, od + k, none⟩ = some (.float .f64 y) := up_cell HDE.out.bel HCD.out
            clear HSH HDD hke HD0
            go_wp2_with (go_at_call 24; refine (StepOf_any _ _ _ _ _ _ _).mono ?_; refine Still.go ?_)
            unfold Still
            rintro e w7 ⟨r7, n7, rfl, hr7, hw7⟩
            have HF7 : Hid (nm r7 = (runS (nm damp) (nm mass) (nm dt) (atWorkS l g) (nm f) (md.zip dr) (k + 1)).2) := by show _ = _; rw [hr7, nm_fres, nm_fres, HSE.out, HNX.out, HF.out]; rfl
            have HD7 : Hid (DB w w7 A (.slice a1 l.length c1) ((runS (nm damp) (nm mass) (nm dt) (atWorkS l g) (nm f) (md.zip dr) (k + 1)).1.map StM.gone) (.slice oa tl.length oc) tl) := by
              show DB _ _ _ _ _ _ _
              rw [hw7, HNX.out]
              exact (HDE.out.drewN _).drewN _
            clear hr7 hw7 HSE HDE d0 d1
            go_wp2_with (at_builtin; refine wpList_append_own _ rfl _ _ 26 rfl w.heap.size 22 i22 (.float .f64 0) 1 8 Try.underlying26 hi22 h220 h221 h222 rfl (by decide) _ _ _ rfl (HD7.out.hO.alloc _) ⟨w7.heap.size, 0, none⟩ 1 1 [.float .f64 r7] rfl rfl (cell_one_new _ _ _) (one_cell rfl) (by have := HTL.out.1; have := HOK.out.2.1; unfold maxLen; omega) (by have := HTL.out.1; have := HOK.out.2.1; omega) (by have := HD7.out.bel.size; simp; omega) ?_; intro v' w8 hown' hgrow _; refine Still.go ?_)
            unfold Still
            have HD8 : Hid (DB w w8 A (.slice a1 l.length c1) ((runS (nm damp) (nm mass) (nm dt) (atWorkS l g) (nm f) (md.zip dr) (k + 1)).1.map StM.gone) v' (tl ++ [r7])) := HD7.out.app (own_snoc hown') hgrow
            have HT8 : Hid ((tl ++ [r7]).length = k + 1 ∧ (tl ++ [r7]).map nm = (toldS (nm damp) (nm mass) (nm dt) (atWorkS l g) (nm f) (md.zip dr) (k + 1))) := by
              refine ⟨by rw [List.length_append, HTL.out.1]; rfl, ?_⟩
              rw [List.map_append, HTL.out.2, HTN.out, ← HF7.out]
              rfl
            clear hown' hgrow HD7 HNX HTN HTL
            go_wp2
            go_roundw
            case rel => exact ⟨k + 1, r7, _, by go_num, rfl, by omega, HF7.out, HD8.out, HT8.out.1, HT8.out.2⟩
            case measure => simp [intOf]; omega
      · have hkn : k = n := by omega
        subst hkn
        obtain ⟨ht1, ht2, ht3⟩ := HT.out
        have HSL : Hid ((runS (nm damp) (nm mass) (nm dt) (atWorkS l g) (nm f) (md.zip dr) k).1.length = l.length) := (runS_len _ _ _ _ _ _ _).trans (atWork_len l g HOK.out.2.2.2)
        have HD5 := hide' ht1
        have HTL : Hid (tl.length = k ∧ tl.map nm = (toldS (nm damp) (nm mass) (nm dt) (atWorkS l g) (nm f) (md.zip dr) k)) := ⟨ht2, ht3⟩
        have a0 : wr.cell? ⟨A, 0, none⟩ = some (.float .f64 0) := (cells_at HD5.out.hA 0).trans rfl
        have a1' : wr.cell? ⟨A, 1, none⟩ = some (.slice none 0 0) := (cells_at HD5.out.hA 1).trans rfl
        have f0 := frozen_no HD5.out.hA 0
        have f1 := frozen_no HD5.out.hA 1
        have HAA : Hid (((wr.setCell ⟨A, 0, none⟩ (.float .f64 r)).setCell ⟨A, 1, none⟩ (.slice a1 l.length c1)).heap[A]? = some (.cells #[.float .f64 r, .slice a1 l.length c1] 25 (0, 0))) := (set_any (set_any HD5.out.hA 0 _) 1 _).trans (congrArg (fun c => some (Obj.cells c 25 (0, 0))) (set2 _ _ _ _))
        have HBF : Hid (Below w.heap.size w ((wr.setCell ⟨A, 0, none⟩ (.float .f64 r)).setCell ⟨A, 1, none⟩ (.slice a1 l.length c1))) := (HD5.out.bel.setCell (p := ⟨A, 0, none⟩) HD5.out.sA _).setCell (p := ⟨A, 1, none⟩) HD5.out.sA _
        have HKE : Hid (KeepE 25 wr ((wr.setCell ⟨A, 0, none⟩ (.float .f64 r)).setCell ⟨A, 1, none⟩ (.slice a1 l.length c1))) := (keep_set HD5.out.hA 0 _).trans (keep_set (set_any HD5.out.hA 0 _) 1 _)
        have HOG : Hid (((wr.setCell ⟨A, 0, none⟩ (.float .f64 r)).setCell ⟨A, 1, none⟩ (.slice a1 l.length c1)).ownsRow w.heap.size 4 1 (.slice a1 l.length c1) l.length (((runS (nm damp) (nm mass) (nm dt) (atWorkS l g) (nm f) (md.zip dr) k).1.map StM.gone).map Value.bool)) := by
          have h1 := HD5.out.hG
          rw [List.length_map, HSL.out] at h1
          exact own_keep h1 HKE.out (by decide)
        have HOT : Hid (((wr.setCell ⟨A, 0, none⟩ (.float .f64 r)).setCell ⟨A, 1, none⟩ (.slice a1 l.length c1)).ownsRow w.heap.size 22 1 (.slice oa tl.length oc) k (fls tl)) := by
          have h1 := own_keep HD5.out.hO HKE.out (by decide)
          rw [HTL.out.1] at h1 ⊢
          exact h1
        clear ht1 ht2 ht3 HD5 HKE HT
        go_wp2
        refine bodyPost_ret (results_cell_row2 rfl _ _ A 25 _ (0, 0) _ rfl HAA.out Try.underlying25 rfl (by kernel_rfl)) rfl ?_
        rw [HR.out]
        refine ⟨.inr ⟨?_, r, .slice a1 l.length c1, .slice oa tl.length oc, tl, rfl, ?_, ?_, ?_, ?_⟩, HBF.out⟩
        · obtain ⟨o1, o2, o3, o4⟩ := HOK.out
          exact ⟨by rw [← HN.out]; exact o1, by rw [← HN.out]; exact o2, o3, o4⟩
        · rw [← HN.out]; exact HF.out
        · rw [← HN.out]; exact HOG.out
        · rw [← HN.out]; exact HOT.out
        · rw [← HN.out]; exact HTL.out.2
  · have HNO := hide' hok
    have a0 : w1.cell? ⟨A, 0, none⟩ = some (.float .f64 0) := (cells_at HA1.out.1 0).trans rfl
    have a1 : w1.cell? ⟨A, 1, none⟩ = some (.slice none 0 0) := (cells_at HA1.out.1 1).trans rfl
    have f0 := frozen_no HA1.out.1 0
    have f1 := frozen_no HA1.out.1 1
    have HAA : Hid (((w1.setCell ⟨A, 0, none⟩ (.float .f64 0)).setCell ⟨A, 1, none⟩ (.slice none 0 0)).heap[A]? = some (.cells zero2 25 (0, 0))) := (set_any (set_any HA1.out.1 0 _) 1 _).trans (congrArg (fun c => some (Obj.cells c 25 (0, 0))) (set2 _ _ _ _))
    have HBF : Hid (Below w.heap.size w ((w1.setCell ⟨A, 0, none⟩ (.float .f64 0)).setCell ⟨A, 1, none⟩ (.slice none 0 0))) := (HA1.out.2.2.1.setCell (p := ⟨A, 0, none⟩) HA1.out.2.2.2 _).setCell (p := ⟨A, 1, none⟩) HA1.out.2.2.2 _
    by_cases c1 : md.length = dr.length
    · have q1 : ((md.length : Int) != (dr.length : Int)) = false := by rw [c1]; simp
      by_cases c2 : md.length ≤ 50
      · have q2 : ¬ (50 : Int) < (md.length : Int) := by omega
        by_cases c3 : l.length ≤ 6
        · have q3 : ¬ (6 : Int) < (l.length : Int) := by omega
          have q4 : ((g.length : Int) != (l.length : Int)) = true := by
            have : g.length ≠ l.length := fun h => hok ⟨c1, c2, c3, h⟩
            simp; omega
          clear hok c1 c2 c3 HA1
          go_wp2
          refine bodyPost_ret (results_cell_row2 rfl _ _ A 25 _ (0, 0) _ rfl HAA.out Try.underlying25 rfl (by kernel_rfl)) rfl ?_
          rw [HR.out]
          exact ⟨.inl ⟨HNO.out, rfl⟩, HBF.out⟩
        · have q3 : (6 : Int) < (l.length : Int) := by omega
          clear hok c1 c2 c3 HA1
          go_wp2
          refine bodyPost_ret (results_cell_row2 rfl _ _ A 25 _ (0, 0) _ rfl HAA.out Try.underlying25 rfl (by kernel_rfl)) rfl ?_
          rw [HR.out]
          exact ⟨.inl ⟨HNO.out, rfl⟩, HBF.out⟩
      · have q2 : (50 : Int) < (md.length : Int) := by omega
        clear hok c1 c2 HA1
        go_wp2
        refine bodyPost_ret (results_cell_row2 rfl _ _ A 25 _ (0, 0) _ rfl HAA.out Try.underlying25 rfl (by kernel_rfl)) rfl ?_
        rw [HR.out]
        exact ⟨.inl ⟨HNO.out, rfl⟩, HBF.out⟩
    · have q1 : ((md.length : Int) != (dr.length : Int)) = true := by simp; omega
      clear hok c1 HA1
      go_wp2
      refine bodyPost_ret (results_cell_row2 rfl _ _ A 25 _ (0, 0) _ rfl HAA.out Try.underlying25 rfl (by kernel_rfl)) rfl ?_
      rw [HR.out]
      exact ⟨.inl ⟨HNO.out, rfl⟩, HBF.out⟩
end Go.Proofs.Ytligmokepafnbaj
