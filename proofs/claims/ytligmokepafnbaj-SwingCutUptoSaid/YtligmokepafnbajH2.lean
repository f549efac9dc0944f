/- A stage sheds by its Once: the first time its sign is set; later nothing is changed. -/
import Derived.Test.YtligmokepafnbajH1
namespace Go.Proofs.Ytligmokepafnbaj
open Go.RowKit Go.Shelf

set_option maxRecDepth 100000 in
set_option maxHeartbeats 1600000 in
theorem slow_any (b st off : Nat) (pl : Addr) (hpb : ¬ b = pl.block) (h5a : ¬ off = st + 5) (h5b : ¬ off + 1 = st + 5) (x3 : Value) (w : World) (hp : w.cell? pl = some (.pointer (some ⟨b, st, none⟩)))
    (h0 : w.cell? ⟨b, off, none⟩ = some (.int .u32 0)) (h1 : w.cell? ⟨b, off + 1, none⟩ = some (.int .i32 0)) (h3 : w.cell? ⟨b, st + 5, none⟩ = some x3)
    (f0 : w.frozen? ⟨b, off, none⟩ = false) (f1 : w.frozen? ⟨b, off + 1, none⟩ = false) (f3 : w.frozen? ⟨b, st + 5, none⟩ = false) :
    Calls Try.prog 31 #[.pointer (some ⟨b, off, none⟩), .func (.func 29) #[] #[.pointer (some pl)]] w fun e w' => e = .returned (.tuple #[]) ∧
      w' = (((w.setCell ⟨b, off + 1, none⟩ (.int .i32 1)).setCell ⟨b, st + 5, none⟩ (.bool true)).drew.setCell ⟨b, off, none⟩ (.int .u32 1)).setCell ⟨b, off + 1, none⟩ (.int .i32 0) := by
  have n1 : (⟨b, off + 1, none⟩ : Addr) ≠ ⟨b, off, none⟩ := by simp
  have n2 : (⟨b, off + 1, none⟩ : Addr) ≠ ⟨b, st + 5, none⟩ := by (try simp); first | done | omega
  have n3 : (⟨b, st + 5, none⟩ : Addr) ≠ ⟨b, off, none⟩ := by (try simp); first | done | omega
  have n4 : (⟨b, off, none⟩ : Addr) ≠ ⟨b, off + 1, none⟩ := by simp
  have n5 : (⟨b, st + 5, none⟩ : Addr) ≠ ⟨b, off + 1, none⟩ := by (try simp); first | done | omega
  have hl := run_call_load (P := Try.prog) Try.func32 (by kernel_rfl) (by kernel_rfl) (by kernel_rfl) .u32 (by kernel_rfl) (w := w.setCell ⟨b, off + 1, none⟩ (.int .i32 1)) (a := ⟨b, off, none⟩) (x := 0) ((World.cell?_setCell_other _ ⟨b, off + 1, none⟩ ⟨b, off, none⟩ _ n1).trans h0)
  have hp1 : (w.setCell ⟨b, off + 1, none⟩ (.int .i32 1)).cell? pl = some (.pointer (some ⟨b, st, none⟩)) := (World.cell?_setCell_other _ ⟨b, off + 1, none⟩ pl _ (fun h => hpb (by rw [← h]))).trans hp
  have h31 : (w.setCell ⟨b, off + 1, none⟩ (.int .i32 1)).cell? ⟨b, st + 5, none⟩ = some x3 := (World.cell?_setCell_other _ ⟨b, off + 1, none⟩ ⟨b, st + 5, none⟩ _ n2).trans h3
  have hnot : ∀ (x : Bool) (w : World), (Op.unary .not (.bool x)).run Try.prog w = .ok (.bool (!x)) w := fun _ _ => rfl
  go_enter_defers Try.func31, Try.ntmps31
  go_wp2_with (go_at_call 33; refine (lock_free ⟨b, off + 1, none⟩ _ (by go_simp) (by go_simp)).mono ?_; rintro e w' ⟨rfl, rfl⟩)
  go_wp2
  go_end0
  go_wp2
  refine leaves_cons (f := 35) (args := #[.pointer (some ⟨b, off, none⟩), .bool true]) (by simp) (by simp [go_sem]) ?_
  refine (store_deferred ⟨b, off, none⟩ (.int .u32 0) .returning _ ?_ (by simp [f0])).mono ?_
  · exact (World.cell?_setCell_other _ ⟨b, st + 5, none⟩ ⟨b, off, none⟩ _ n3).trans ((World.cell?_setCell_other _ ⟨b, off + 1, none⟩ ⟨b, off, none⟩ _ n1).trans h0)
  rintro e u' w'' ⟨rfl, rfl, rfl⟩
  refine leaves_cons (f := 34) (args := #[.pointer (some ⟨b, off + 1, none⟩)]) (by simp [settle]) (by simp [go_sem]) ?_
  refine (unlock_deferred ⟨b, off + 1, none⟩ _ _ ?_ (by simp [f1])).mono ?_
  · refine (World.cell?_setCell_other _ ⟨b, off, none⟩ ⟨b, off + 1, none⟩ _ n4).trans ?_
    rw [World.cell?_drew]
    exact (World.cell?_setCell_other _ ⟨b, st + 5, none⟩ ⟨b, off + 1, none⟩ _ n5).trans (World.cell?_setCell_same w _ _ h1)
  rintro e u' w'' ⟨rfl, rfl, rfl⟩
  simp [Leaves, settle, results, Try.results31]

set_option maxRecDepth 100000 in
set_option maxHeartbeats 1600000 in
/-- '(*sync.Once).Do', not yet done, the lock free. -/
theorem do_first (b st off : Nat) (pl : Addr) (hpb : ¬ b = pl.block) (h5a : ¬ off = st + 5) (h5b : ¬ off + 1 = st + 5) (x3 : Value) (w : World) (hp : w.cell? pl = some (.pointer (some ⟨b, st, none⟩)))
    (h0 : w.cell? ⟨b, off, none⟩ = some (.int .u32 0)) (h1 : w.cell? ⟨b, off + 1, none⟩ = some (.int .i32 0)) (h3 : w.cell? ⟨b, st + 5, none⟩ = some x3)
    (f0 : w.frozen? ⟨b, off, none⟩ = false) (f1 : w.frozen? ⟨b, off + 1, none⟩ = false) (f3 : w.frozen? ⟨b, st + 5, none⟩ = false) :
    Calls Try.prog 28 #[.pointer (some ⟨b, off, none⟩), .func (.func 29) #[] #[.pointer (some pl)]] w fun e w' => e = .returned (.tuple #[]) ∧ w' = ((((w.setCell ⟨b, off + 1, none⟩ (.int .i32 1)).setCell ⟨b, st + 5, none⟩ (.bool true)).drew.setCell ⟨b, off, none⟩ (.int .u32 1)).setCell ⟨b, off + 1, none⟩ (.int .i32 0)) := by
  have hl := run_call_load (P := Try.prog) Try.func32 (by kernel_rfl) (by kernel_rfl) (by kernel_rfl) .u32 (by kernel_rfl) h0
  have hnot : ∀ (x : Bool) (w : World), (Op.unary .not (.bool x)).run Try.prog w = .ok (.bool (!x)) w := fun _ _ => rfl
  go_enter Try.func28, Try.ntmps28
  go_wp2_with (first | (go_at_call 31; refine (slow_any b st off pl hpb h5a h5b x3 _ hp h0 h1 h3 f0 f1 f3).mono ?_; rintro e w' ⟨rfl, rfl⟩) | (go_at_call 30; go_in))
  go_end0
  exact ⟨rfl, rfl⟩

/-- '(*sync.Once).Do', done already: the function is not called. -/
theorem do_done (a : Addr) (fv : Value) (w : World) (h0 : w.cell? a = some (.int .u32 1)) :
    Calls Try.prog 28 #[.pointer (some a), fv] w fun e w' => e = .returned (.tuple #[]) ∧ w' = w := by
  have hl := run_call_load (P := Try.prog) Try.func32 (by kernel_rfl) (by kernel_rfl) (by kernel_rfl) .u32 (by kernel_rfl) h0
  have hnot : ∀ (x : Bool) (w : World), (Op.unary .not (.bool x)).run Try.prog w = .ok (.bool (!x)) w := fun _ _ => rfl
  go_enter Try.func28, Try.ntmps28
  go_wp2
  go_end0
  exact ⟨rfl, rfl⟩

set_option maxRecDepth 100000 in
set_option maxHeartbeats 1600000 in
/-- A stage sheds, the first time. -/
theorem shed_first (b st : Nat) (x3 : Value) (w : World) (hb : b < w.heap.size)
    (h0 : w.cell? ⟨b, st + 2, none⟩ = some (.int .u32 0)) (h1 : w.cell? ⟨b, st + 2 + 1, none⟩ = some (.int .i32 0)) (h3 : w.cell? ⟨b, st + 5, none⟩ = some x3)
    (f0 : w.frozen? ⟨b, st + 2, none⟩ = false) (f1 : w.frozen? ⟨b, st + 2 + 1, none⟩ = false) (f3 : w.frozen? ⟨b, st + 5, none⟩ = false) :
    Calls Try.prog 26 #[.pointer (some ⟨b, st, none⟩)] w fun e w' => e = .returned (.tuple #[]) ∧
      w' = (((((w.setCell ⟨b, st + 2 + 1, none⟩ (.int .i32 1)).setCell ⟨b, st + 5, none⟩ (.bool true)).setCell ⟨b, st + 2, none⟩ (.int .u32 1)).setCell ⟨b, st + 2 + 1, none⟩ (.int .i32 0)).alloc (.cells #[.pointer (some ⟨b, st, none⟩)] 72)).drew := by
  have hmf : ∀ (fn : Fn) (first cap : Array Value) (w : World), (Instr.makeFunc fn first cap).run Try.prog w = .ok (.func fn first cap) w := fun _ _ _ _ => rfl
  have p0 : (w.alloc (.cells #[.pointer (some ⟨b, st, none⟩)] 72)).cell? ⟨w.heap.size, 0, none⟩ = some (.pointer (some ⟨b, st, none⟩)) := by simp
  have a0 : (w.alloc (.cells #[.pointer (some ⟨b, st, none⟩)] 72)).cell? ⟨b, st + 2, none⟩ = some (.int .u32 0) := by rw [World.cell?_alloc_past _ _ _ hb]; exact h0
  have a1 : (w.alloc (.cells #[.pointer (some ⟨b, st, none⟩)] 72)).cell? ⟨b, st + 2 + 1, none⟩ = some (.int .i32 0) := by rw [World.cell?_alloc_past _ _ _ hb]; exact h1
  have a3 : (w.alloc (.cells #[.pointer (some ⟨b, st, none⟩)] 72)).cell? ⟨b, st + 5, none⟩ = some x3 := by rw [World.cell?_alloc_past _ _ _ hb]; exact h3
  have z0 : (w.alloc (.cells #[.pointer (some ⟨b, st, none⟩)] 72)).frozen? ⟨b, st + 2, none⟩ = false := by rw [World.frozen?_alloc_past _ _ _ hb]; exact f0
  have z1 : (w.alloc (.cells #[.pointer (some ⟨b, st, none⟩)] 72)).frozen? ⟨b, st + 2 + 1, none⟩ = false := by rw [World.frozen?_alloc_past _ _ _ hb]; exact f1
  have z3 : (w.alloc (.cells #[.pointer (some ⟨b, st, none⟩)] 72)).frozen? ⟨b, st + 5, none⟩ = false := by rw [World.frozen?_alloc_past _ _ _ hb]; exact f3
  go_enter Try.func26, Try.ntmps26
  go_wp2_with (go_at_call 28; refine (do_first b st (st + 2) ⟨w.heap.size, 0, none⟩ (by simp; omega) (by omega) (by omega) x3 _ p0 a0 a1 a3 z0 z1 z3).mono ?_; rintro e w' ⟨rfl, rfl⟩)
  go_end0
  exact ⟨rfl, rfl⟩

/-- .. and later. -/
theorem shed_again (b st : Nat) (w : World) (hb : b < w.heap.size) (h0 : w.cell? ⟨b, st + 2, none⟩ = some (.int .u32 1)) :
    Calls Try.prog 26 #[.pointer (some ⟨b, st, none⟩)] w fun e w' => e = .returned (.tuple #[]) ∧ w' = w.alloc (.cells #[.pointer (some ⟨b, st, none⟩)] 72) := by
  have hmf : ∀ (fn : Fn) (first cap : Array Value) (w : World), (Instr.makeFunc fn first cap).run Try.prog w = .ok (.func fn first cap) w := fun _ _ _ _ => rfl
  have a0 : (w.alloc (.cells #[.pointer (some ⟨b, st, none⟩)] 72)).cell? ⟨b, st + 2, none⟩ = some (.int .u32 1) := by rw [World.cell?_alloc_past _ _ _ hb]; exact h0
  go_enter Try.func26, Try.ntmps26
  go_wp2_with (go_at_call 28; refine (do_done ⟨b, st + 2, none⟩ _ _ a0).mono ?_; rintro e w' ⟨rfl, rfl⟩)
  go_end0
  exact ⟨rfl, rfl⟩
end Go.Proofs.Ytligmokepafnbaj
