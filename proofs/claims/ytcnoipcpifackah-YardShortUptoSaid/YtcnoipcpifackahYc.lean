/- What is wrong with moving a device, in the program: each thing by itself. -/
import Derived.Test.YtcnoipcpifackahYa
namespace Go.Proofs.Ytcnoipcpifackah
open Go.RowKit Go.Shelf

def YardM.dev (y : YardM) (k : Nat) : DevM := (y.devs[k]?).getD ⟨0, 0, 0, false⟩
/-- With the device open. -/
def YardM.opened (y : YardM) (k : Nat) : YardM := if (y.dev k).shut then y.turn k else y
def ontoB (o : YardM) (a b : Nat) : Bool := o.live.getD a false && (o.live.getD b false || o.load.getD b false)
/-- P10.3, of a Blade. -/
def loadB (y : YardM) (k : Nat) : Bool := !((y.opened k).grp.getD (y.dev k).a.toNat 0 == (y.opened k).grp.getD (y.dev k).b.toNat 0) && (ontoB (y.opened k) (y.dev k).a.toNat (y.dev k).b.toNat || ontoB (y.opened k) (y.dev k).b.toNat (y.dev k).a.toNat)
def earthE (y : YardM) (k : Nat) : Int := if (!(y.dev k).shut && !soundB (y.turn k)) = true then 12 else 0
def loadE (y : YardM) (k : Nat) : Int := if loadB y k = true then 13 else 0
def liveE (y : YardM) (k : Nat) : Int := if (!(y.dev k).shut && y.live.getD (y.dev k).a.toNat false) = true then 11 else 0
theorem MayY.opened {y : YardM} (h : MayY y) (k : Nat) : MayY (y.opened k) := by
  unfold YardM.opened; split
  · exact h.turn k
  · exact h
theorem opened_n (y : YardM) (k : Nat) : (y.opened k).n = y.n := by
  unfold YardM.opened; split <;> rfl
def workC (y : YardM) (p : Places) : Array Value := #[.int .i64 y.points, .slice p.af y.fed.length p.cf, .slice p.ad y.drawn.length p.cd, .slice p.as' y.devs.length p.cs, .slice (some ⟨p.G, 0, none⟩) y.n p.cg, .slice (some ⟨p.L, 0, none⟩) y.n y.n, .slice (some ⟨p.E, 0, none⟩) y.n y.n, .slice (some ⟨p.D, 0, none⟩) y.n y.n]
theorem workV_is (y : YardM) (p : Places) : workV y p = .agg (workC y p) := rfl
/-- What the closures have caught. -/
structure Caught (w : World) (y : YardM) (p : Places) (k B V K : Nat) : Prop where
  hB : w.heap[B]? = some (.cells (workC y p) 50 (0, 0))
  hV : w.heap[V]? = some (.cells (y.dev k).cells.toArray 45 (0, 0))
  hK : w.heap[K]? = some (.cells #[.int .i64 k] 3 (0, 0))
  wk : WorkAt w y p
  may : MayY y
  lt : k < y.devs.length
theorem Caught.below {w w' : World} {y : YardM} {p : Places} {k B V K : Nat} (h : Caught w y p k B V K) (hb : Below w.heap.size w w') : Caught w' y p k B V K :=
  ⟨(hb.block B (Array.getElem?_eq_some_iff.1 h.hB).1).trans h.hB, (hb.block V (Array.getElem?_eq_some_iff.1 h.hV).1).trans h.hV, (hb.block K (Array.getElem?_eq_some_iff.1 h.hK).1).trans h.hK, h.wk.below hb (Nat.le_refl _), h.may, h.lt⟩
theorem dev_get {y : YardM} {k : Nat} (h : k < y.devs.length) : y.devs[k]? = some (y.dev k) ∧ y.dev k ∈ y.devs := by
  have e : y.devs[k]? = some (y.dev k) := by rw [YardM.dev, List.getElem?_eq_getElem h]; rfl
  exact ⟨e, List.mem_of_getElem? e⟩
theorem dev_a {y : YardM} (hm : MayY y) {k : Nat} (h : k < y.devs.length) : ∃ a : Nat, (y.dev k).a = (a : Int) ∧ a < y.n := by
  have h1 := hm.o _ (dev_get h).2
  have h2 := hm.n_le
  refine ⟨(y.dev k).a.toNat, ?_, ?_⟩ <;> rcases h1 with ⟨_, h1, _⟩ | ⟨_, h1, _⟩ <;> omega
theorem dev_b {y : YardM} (hm : MayY y) {k : Nat} (h : k < y.devs.length) (_hk : (y.dev k).kind ≠ 3) : ∃ b : Nat, (y.dev k).b = (b : Int) ∧ b < y.n := by
  have h1 := hm.o _ (dev_get h).2
  have h2 := hm.n_le
  refine ⟨(y.dev k).b.toNat, ?_, ?_⟩ <;> rcases h1 with ⟨_, _, h1, _⟩ | ⟨h1, _, _⟩ <;> omega
set_option maxRecDepth 100000 in
set_option maxHeartbeats 1000000 in
theorem onto_any (o : YardM) (q : Places) (O a b : Nat) (w : World) (h5 : w.cell? ⟨O, 5, none⟩ = some (.slice (some ⟨q.L, 0, none⟩) o.n o.n)) (h7 : w.cell? ⟨O, 7, none⟩ = some (.slice (some ⟨q.D, 0, none⟩) o.n o.n)) (hw : WorkAt w o q) (ha : a < o.n) (hb : b < o.n) : Calls Try.prog 49 #[.int .i64 a, .int .i64 b, .pointer (some ⟨O, 0, none⟩)] w fun e w' => e = .returned (.bool (ontoB o a b)) ∧ w' = w := by
  have la := row_bool hw.live ha
  have lb := row_bool hw.live hb
  have db := row_bool hw.load hb
  have HO : Hid (ontoB o a b = (o.live.getD a false && (o.live.getD b false || o.load.getD b false))) := rfl
  obtain ⟨L, hL⟩ : ∃ x, x = q.L := ⟨_, rfl⟩
  obtain ⟨D, hD⟩ : ∃ x, x = q.D := ⟨_, rfl⟩
  obtain ⟨n, hn⟩ : ∃ x, x = o.n := ⟨_, rfl⟩
  obtain ⟨xa, hxa⟩ : ∃ x, x = o.live.getD a false := ⟨_, rfl⟩
  obtain ⟨xb, hxb⟩ : ∃ x, x = o.live.getD b false := ⟨_, rfl⟩
  obtain ⟨yb, hyb⟩ : ∃ x, x = o.load.getD b false := ⟨_, rfl⟩
  rw [← hL, ← hn] at h5
  rw [← hD, ← hn] at h7
  rw [← hL, ← hxa] at la
  rw [← hL, ← hxb] at lb
  rw [← hD, ← hyb] at db
  rw [← hxa, ← hxb, ← hyb] at HO
  rw [← hn] at ha hb
  rw [HO.out]
  clear hw hL hD hn hxa hxb hyb HO
  go_enter Try.func49, Try.ntmps49
  cases xa with
  | false =>
    go_wp2
    go_ret
    exact ⟨rfl, rfl⟩
  | true =>
    cases xb with
    | true =>
      go_wp2
      go_ret
      exact ⟨rfl, rfl⟩
    | false =>
      go_wp2
      go_ret
      exact ⟨by simp, rfl⟩
set_option maxRecDepth 100000 in
set_option maxHeartbeats 1000000 in
theorem live_any (y : YardM) (p : Places) (k B V K : Nat) (w : World) (hc : Caught w y p k B V K) : Calls Try.prog 51 #[.pointer (some ⟨V, 0, none⟩), .pointer (some ⟨B, 0, none⟩)] w fun e w' => e = .returned (.int .i64 (liveE y k)) ∧ Below w.heap.size w w' := by
  have HE : Hid (liveE y k = if (!(y.dev k).shut && y.live.getD (y.dev k).a.toNat false) = true then 11 else 0) := rfl
  have HB := hide' (Below.refl w.heap.size w)
  obtain ⟨a, hae, ha⟩ := dev_a hc.may hc.lt
  have la := row_bool hc.wk.live ha
  have v1 : w.cell? ⟨V, 1, none⟩ = some (.int .i64 (y.dev k).a) := (cells_at hc.hV 1).trans rfl
  have v3 : w.cell? ⟨V, 3, none⟩ = some (.bool (y.dev k).shut) := (cells_at hc.hV 3).trans rfl
  have b5 : w.cell? ⟨B, 5, none⟩ = some (.slice (some ⟨p.L, 0, none⟩) y.n y.n) := (cells_at hc.hB 5).trans rfl
  rw [hae] at v1 HE
  rw [Int.toNat_natCast] at HE
  obtain ⟨L, hL⟩ : ∃ x, x = p.L := ⟨_, rfl⟩
  obtain ⟨n, hn⟩ : ∃ x, x = y.n := ⟨_, rfl⟩
  obtain ⟨sh, hsh⟩ : ∃ x, x = (y.dev k).shut := ⟨_, rfl⟩
  obtain ⟨xa, hxa⟩ : ∃ x, x = y.live.getD a false := ⟨_, rfl⟩
  rw [← hL, ← hn] at b5
  rw [← hL, ← hxa] at la
  rw [← hsh, ← hxa] at HE
  rw [← hsh] at v3
  rw [← hn] at ha
  rw [HE.out]
  clear hc hL hn hsh hxa HE hae
  go_enter Try.func51, Try.ntmps51
  cases sh with
  | true =>
    go_wp2
    go_ret
    exact ⟨rfl, HB.out⟩
  | false =>
    cases xa with
    | true =>
      go_wp2
      go_ret
      exact ⟨rfl, HB.out⟩
    | false =>
      go_wp2
      go_ret
      exact ⟨rfl, HB.out⟩
set_option maxRecDepth 100000 in
set_option maxHeartbeats 1000000 in
theorem earth_any (y : YardM) (p : Places) (k B V K : Nat) (w : World) (hc : Caught w y p k B V K) : Calls Try.prog 50 #[.pointer (some ⟨V, 0, none⟩), .pointer (some ⟨B, 0, none⟩), .pointer (some ⟨K, 0, none⟩)] w fun e w' => e = .returned (.int .i64 (earthE y k)) ∧ Below w.heap.size w w' := by
  have HE : Hid (earthE y k = if (!(y.dev k).shut && !soundB (y.turn k)) = true then 12 else 0) := rfl
  have HB := hide' (Below.refl w.heap.size w)
  have v3 : w.cell? ⟨V, 3, none⟩ = some (.bool (y.dev k).shut) := (cells_at hc.hV 3).trans rfl
  have k0 : w.cell? ⟨K, 0, none⟩ = some (.int .i64 k) := (cells_at hc.hK 0).trans rfl
  have HT := hide' (turned_any y hc.may p k w hc.wk hc.lt)
  have HWK := hide' hc.wk
  have HS : Hid (∀ w' q, WorkAt w' (y.turn k) q → Calls Try.prog 30 #[workV (y.turn k) q] w' fun e w'' => e = .returned (.bool (soundB (y.turn k))) ∧ Below w'.heap.size w' w'') := fun w' q hq => sound_any _ (hc.may.turn k) q w' hq
  have hB := hc.hB
  rw [workV_is] at HT
  unfold workC at HT hB
  have b0 := (cells_at hB 0).trans rfl
  have b1 := (cells_at hB 1).trans rfl
  have b2 := (cells_at hB 2).trans rfl
  have b3 := (cells_at hB 3).trans rfl
  have b4 := (cells_at hB 4).trans rfl
  have b5 := (cells_at hB 5).trans rfl
  have b6 := (cells_at hB 6).trans rfl
  have b7 := (cells_at hB 7).trans rfl
  obtain ⟨af, ad, as', cf, cd, cs, G, cg, L, E, D⟩ := p
  dsimp only at HT b0 b1 b2 b3 b4 b5 b6 b7
  obtain ⟨sh, hsh⟩ : ∃ x, x = (y.dev k).shut := ⟨_, rfl⟩
  obtain ⟨sd, hsd⟩ : ∃ x, x = soundB (y.turn k) := ⟨_, rfl⟩
  rw [← hsh, ← hsd] at HE
  rw [← hsh] at v3
  rw [← hsd] at HS
  rw [HE.out]
  clear hc hsh hsd HE hB
  go_enter Try.func50, Try.ntmps50
  cases sh with
  | true =>
    go_wp2
    go_ret
    exact ⟨rfl, HB.out⟩
  | false =>
    go_wp2_with fail
    refine HT.out.mono ?_
    intro e w1 ht
    obtain ⟨q, rfl, hq, hb1⟩ := ht.work HWK.out
    clear ht
    have HS1 := hide' (HS.out w1 q hq)
    have HB1 := hide' hb1
    clear hq hb1 HT HS b0 b1 b2 b3 b4 b5 b6 b7 v3 k0
    go_wp2_with fail
    refine HS1.out.mono ?_
    rintro e w2 ⟨rfl, hb2⟩
    have HB2 := hide' (HB1.out.trans (hb2.mono HB1.out.size))
    clear hb2 HS1
    cases sd with
    | true =>
      go_wp2
      go_ret
      exact ⟨rfl, HB2.out⟩
    | false =>
      go_wp2
      go_ret
      exact ⟨rfl, HB2.out⟩
end Go.Proofs.Ytcnoipcpifackah
