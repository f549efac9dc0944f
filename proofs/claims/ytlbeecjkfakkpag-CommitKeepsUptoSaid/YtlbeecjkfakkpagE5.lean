/- The order in which units are asked for more, sorted by the program. -/
import Derived.Test.YtlbeecjkfakkpagE4
import Derived.Test.YtlbeecjkfakkpagSh
namespace Go.Proofs.Ytlbeecjkfakkpag
open Go.RowKit Go.Shelf

/-- A place, as it is told. -/
def encR (n : Nat) (x : Nat) : Value := .int .i64 ((x % n : Nat) : Int)
theorem encR_one (n : Nat) : Go.Proofs.OneCell (encR n) := fun _ => rfl
def natsI (d : Array Nat) : List Int := d.toList.map fun x : Nat => (x : Int)
theorem sort_block (enc : Nat → Value) (W : World) (g m : Nat) (dk : Array Nat) (os : Array Obj) (k : Nat) (hk : k < W.heap.size) (hg : k ≠ g) : (Go.Proofs.sortWorld enc W g 0 m dk os).heap[k]? = W.heap[k]? := by
  show ((W.heap.modify g _) ++ os)[k]? = _
  rw [Array.getElem?_append_left (by simpa using hk), Array.getElem?_modify, if_neg (by omega)]
theorem sort_below (enc : Nat → Value) (W : World) (g m B : Nat) (dk : Array Nat) (os : Array Obj) (hB : B ≤ g) (hs : B ≤ W.heap.size) : Below B W (Go.Proofs.sortWorld enc W g 0 m dk os) :=
  ⟨rfl, rfl, rfl, by show W.heap.size ≤ ((W.heap.modify g _) ++ os).size; simp, fun k hk => sort_block enc W g m dk os k (by omega) (by omega)⟩
theorem put_below (enc : Nat → Value) (W : World) (g q B : Nat) (dk : Array Nat) (hB : B ≤ g) : Below B W ((Go.Sort.putRow enc W g 0 dk).drewN q) :=
  ⟨rfl, rfl, rfl, by show W.heap.size ≤ (W.heap.modify g _).size; simp, fun k hk => by show (W.heap.modify g _)[k]? = _; rw [Array.getElem?_modify, if_neg (by omega)]⟩
theorem put_own {enc : Nat → Value} {W : World} {B g n cap q : Nat} {xs : List Value} (d : Array Nat) (h : W.ownsRow B 3 1 (.slice (some ⟨g, 0, none⟩) n cap) n xs) (hd : d.size = n) : ((Go.Sort.putRow enc W g 0 d).drewN q).ownsRow B 3 1 (.slice (some ⟨g, 0, none⟩) n cap) n (d.toList.map enc) := by
  refine ⟨by simp [hd], ?_⟩
  rcases h.2 with ⟨h1, _⟩ | ⟨g', cap', cur, h1, h2, h3, h4, h5, h6, h7⟩
  · cases h1
  · cases h1
    refine .inr ⟨g, cap, Go.Sort.putCells enc 0 d cur, rfl, h2, ?_, h4, h5, by simp [Go.Sort.putCells, h6], ?_⟩
    · show (W.heap.modify g _)[g]? = _
      rw [Array.getElem?_modify, if_pos rfl, h3]
      rfl
    · apply List.ext_getElem?
      intro k
      rw [List.getElem?_take]
      by_cases hk : k < n
      · rw [if_pos (by omega), Array.getElem?_toList, Go.Sort.putCells, Array.getElem?_mapIdx, Array.getElem?_eq_getElem (by omega : k < cur.size), List.getElem?_map, Array.getElem?_toList, Array.getElem?_eq_getElem (by omega : k < d.size)]
        simp only [Option.map_some, Nat.zero_le, true_and, Nat.zero_add, Nat.sub_zero]
        rw [if_pos (by omega), getElem!_pos d k (by omega)]
      · rw [if_neg (by omega), List.getElem?_eq_none (by simp; omega)]
theorem range_get {n p : Nat} (hp : p < n) : (Array.range n)[p]! = p := by rw [getElem!_pos _ p (by simpa using hp), Array.getElem_range]
theorem own_holds {W : World} {B g n cap : Nat} (h : W.ownsRow B 3 1 (.slice (some ⟨g, 0, none⟩) n cap) n (ints (natsI (Array.range n)))) : Go.Sort.Holds (encR n) W g 0 (Array.range n) := by
  intro j hj
  have hjn : j < n := by simpa using hj
  obtain ⟨_, a, c, ex, hc⟩ := rowAt_of_own h
  cases ex
  have hx : (ints (natsI (Array.range n)))[j]? = some (.int .i64 ((j : Nat) : Int)) := by
    simp [ints, natsI, hjn]
  obtain ⟨b, off, e1, e2⟩ := hc j _ hx
  cases e1
  refine ⟨by rw [e2, range_get hjn]; unfold encR; rw [Nat.mod_eq_of_lt hjn], ?_⟩
  rcases h.2 with ⟨h1, _⟩ | ⟨g', cap', cur, h1, h2, h3, _⟩
  · cases h1
  · cases h1
    exact frozen_no h3 _
theorem encR_nats {n : Nat} {d : Array Nat} (h : ∀ p, p < d.size → d[p]! < n) : d.toList.map (encR n) = ints (natsI d) := by
  rw [ints, natsI, List.map_map]
  apply List.map_congr_left
  intro x hx
  obtain ⟨i, hi, rfl⟩ := List.getElem_of_mem hx
  have := h i (by simpa using hi)
  rw [getElem!_pos d i (by simpa using hi)] at this
  show Value.int .i64 _ = Value.int .i64 _
  rw [show d.toList[i] = d[i]'(by simpa using hi) from by simp, Nat.mod_eq_of_lt this]
/-- What the sort leaves. -/
def Sorted (us : List UnitM) (B : Nat) (v : Value) (w w' : World) : Prop := ∃ d, Rk (costN us) us.length us.length d ∧ w'.ownsRow B 3 1 v us.length (ints (natsI d)) ∧ Below B w w'
set_option maxRecDepth 100000 in
theorem ranks_sort {us : List UnitM} {w0 W : World} {A B g cap : Nat} {lv : Value} (h0 : 0 < us.length) (h4 : us.length ≤ 4) (hx : UnitsAt w0 lv us) (hb : Below w0.heap.size w0 W) (hA : W.cell? ⟨A, 0, none⟩ = some lv) (hAB : A < B) (hwB : w0.heap.size ≤ B) (how : W.ownsRow B 3 1 (.slice (some ⟨g, 0, none⟩) us.length cap) us.length (ints (natsI (Array.range us.length)))) :
    Calls Try.prog 63 #[.slice (some ⟨g, 0, none⟩) us.length cap, .int .i64 0, .int .i64 us.length, .func (.func 46) #[] #[.pointer (some ⟨A, 0, none⟩)]] W fun e w' => e = .returned (.tuple #[]) ∧ Sorted us B (.slice (some ⟨g, 0, none⟩) us.length cap) W w' := by
  have hBg : B ≤ g := by
    rcases how.2 with ⟨h1, _⟩ | ⟨g', cap', cur, h1, h2, _⟩
    · cases h1
    · cases h1; exact h2
  have hgs : g < W.heap.size := by
    rcases how.2 with ⟨h1, _⟩ | ⟨g', cap', cur, h1, h2, h3, _⟩
    · cases h1
    · cases h1; exact (Array.getElem?_eq_some_iff.1 h3).1
  have key := Go.Proofs.Try.insertionSortCmpFunc_one (encR us.length) (encR_one _) (fun x y => cmpI (costN us (x % us.length)) (costN us (y % us.length))) 46 #[.pointer (some ⟨A, 0, none⟩)] g 0 cap 0 us.length (Array.range us.length) W
    (enters_of Try.func46 (by kernel_rfl) rfl) (fun m os dk hdk x y => by
      have hS := sort_below (encR us.length) W g m B dk os hBg (by omega)
      refine less_any us (x % us.length) (y % us.length) A lv _ ((hS.cell (p := ⟨A, 0, none⟩) hAB).trans hA) (hx.below (hb.trans (hS.mono hwB)) (Nat.le_refl _)) (Nat.mod_lt _ h0) (Nat.mod_lt _ h0) (by omega)) (own_holds how) (Nat.zero_le _) (by simp) (by simp; omega)
  rw [show (Array.range us.length).size = us.length by simp] at key
  refine key.mono ?_
  rintro e w' ⟨rfl, q, rfl⟩
  have hlt : Go.Proofs.ltOf (fun x y => cmpI (costN us (x % us.length)) (costN us (y % us.length))) = ltC (fun x => costN us (x % us.length)) := by
    funext x y
    unfold Go.Proofs.ltOf ltC cmpI
    rw [Bool.eq_iff_iff]
    simp only [decide_eq_true_eq]
    split
    · omega
    · split <;> omega
  have hrk := sort_rk (fun x => costN us (x % us.length)) us.length
  rw [← hlt] at hrk
  have hrk2 : Rk (costN us) us.length us.length (Go.Sort.insertionSort (Go.Proofs.ltOf (fun x y => cmpI (costN us (x % us.length)) (costN us (y % us.length)))) (Array.range us.length) 0 us.length) := hrk.of (fun i hi => by show costN us (i % us.length) = _; rw [Nat.mod_eq_of_lt hi])
  refine ⟨rfl, _, hrk2, ?_, put_below _ _ _ _ _ _ hBg⟩
  have := put_own (enc := encR us.length) (q := q) _ how hrk2.size
  rw [encR_nats (fun p hp => hrk2.less p (by rw [← hrk2.size]; exact hp))] at this
  exact this
theorem sort_none (f : Value) (w : World) : Calls Try.prog 63 #[.slice none 0 0, .int .i64 0, .int .i64 0, f] w fun e w' => e = .returned (.tuple #[]) ∧ w' = w := by
  go_enter Try.func63, Try.ntmps63
  go_wp2_with fail
  go_loopw [8] (fun b wr => b = .int .i64 1 ∧ wr = w) (fun _ _ => 0)
  case atStart => exact ⟨rfl, rfl⟩
  case round =>
    obtain ⟨rfl, rfl⟩ := hrel
    go_wp2
    refine bodyPost_end (results_none rfl _ _ _) rfl ?_
    exact ⟨rfl, rfl⟩
set_option maxRecDepth 100000 in
set_option maxHeartbeats 2000000 in
theorem stable_of (v fv : Value) (n : Nat) (w : World) (R : World → Prop) (hn : n ≤ 4) (h : Calls Try.prog 63 #[v, .int .i64 0, .int .i64 n, fv] w fun e w' => e = .returned (.tuple #[]) ∧ R w') : Calls Try.prog 57 #[v, .int .i64 n, fv] w fun e w' => e = .returned (.tuple #[]) ∧ R w' := by
  have HH := hide' h
  clear h
  go_enter Try.func57, Try.ntmps57
  go_wp2_with fail
  go_loopw [7, 8] (fun a b wr => a = .int .i64 0 ∧ b = .int .i64 20 ∧ wr = w) (fun _ _ _ => 0)
  case atStart => exact ⟨rfl, rfl, rfl⟩
  case round =>
    obtain ⟨rfl, rfl, rfl⟩ := hrel
    go_wp2_with fail
    refine HH.out.mono ?_
    rintro e w1 ⟨rfl, hR⟩
    have HR := hide' hR
    clear hR
    go_wp2_with fail
    go_loopw [6] (fun b W => b = .int .i64 20 ∧ W = w1) (fun _ _ => 0)
    case atStart => exact ⟨rfl, rfl⟩
    case round =>
      obtain ⟨rfl, rfl⟩ := hrel
      go_wp2
      refine bodyPost_end (results_none rfl _ _ _) rfl ?_
      exact ⟨rfl, HR.out⟩
theorem sorts_of (a : Option Addr) (c : Nat) (fv : Value) (n : Nat) (w : World) (R : World → Prop) (hn : n ≤ 4) (h : Calls Try.prog 63 #[.slice a n c, .int .i64 0, .int .i64 n, fv] w fun e w' => e = .returned (.tuple #[]) ∧ R w') : Calls Try.prog 45 #[.slice a n c, fv] w fun e w' => e = .returned (.tuple #[]) ∧ R w' := by
  have HH := hide' (stable_of _ fv n w R hn h)
  clear h
  go_enter Try.func45, Try.ntmps45
  go_wp2_with fail
  refine HH.out.mono ?_
  rintro e w1 ⟨rfl, hR⟩
  have HR := hide' hR
  clear hR
  go_wp2
  refine bodyPost_end (results_none rfl _ _ _) rfl ?_
  exact ⟨rfl, HR.out⟩
end Go.Proofs.Ytlbeecjkfakkpag
