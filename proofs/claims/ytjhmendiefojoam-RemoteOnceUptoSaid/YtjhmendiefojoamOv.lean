/- One tick of the line. -/
import Derived.Test.YtjhmendiefojoamOu
namespace Go.Proofs.Ytjhmendiefojoam
open Go.RowKit Go.Shelf

/-- No panic. -/
def calmQ (Q : Exit → Act → World → Prop) : Exit → Act → World → Prop
  | .panic _, _, _ => False
  | e, a, w => Q e a w
theorem calm_le {Q : Exit → Act → World → Prop} {e : Exit} {a : Act} {w : World} (h : calmQ Q e a w) : Q e a w := by
  cases e <;> first | exact h | exact h.elim
theorem calm_exit {Q : Exit → Act → World → Prop} {n : Nat} {a : Act} {w : World} (h : Q (.exit n) a w) : calmQ Q (.exit n) a w := h
theorem calm_ret {Q : Exit → Act → World → Prop} {a : Act} {w : World} (h : Q .ret a w) : calmQ Q .ret a w := h
/-- What a tick leaves. -/
def TickO (B K : Nat) (W : Wl) (w : World) (e : Ending) (w' : World) : Prop := e = .returned (.bool true) ∧ (∃ pv dv uv ov av cv, WAt w' B K W pv dv uv ov av cv) ∧ Bl B w w'
set_option maxRecDepth 1000000 in
set_option maxHeartbeats 8000000 in
theorem lineTick_any {pat lim P : Int} {T : Nat} (V : Wl) (B K : Nat) (pv dv uv ov av cv : Value) (t : TuM) (w : World) (hW : WAt w B K V pv dv uv ov av cv) (hI : Inv pat lim P T V) (hS : Sz T V) (hT : T ≤ 240) (hsi : I6 t.ask) (hmi : I6 t.mix) (hls : I6 t.lose) (hai : I6 t.again) : Calls Try.prog 22 #[.pointer (some ⟨K, 0, none⟩), .agg t.cells] w (TickO B K (tickW V t) w) := by
  have HW := hide' hW
  have HI := hide' hI
  have HSZ : Hid (V.down.length + V.up.length ≤ 80000 ∧ V.old.length ≤ 600000 ∧ V.acted.length ≤ 600000) := ⟨by have := hS.a; omega, by have := hS.o; omega, by have := hS.c; omega⟩
  have HT6 : Hid (I6 t.ask ∧ I6 t.mix ∧ I6 t.lose ∧ I6 t.again ∧ T ≤ 900) := ⟨hsi, hmi, hls, hai, by omega⟩
  have HGO : Hid (∀ w' Tb, TkAt w w' B K Tb t (tickW V t) → TickO B K (tickW V t) w (.returned (.bool true)) w') := fun w' _ h => ⟨rfl, h.wat, h.bl⟩
  have HTC : Hid (t.cells = #[.int .i64 t.ask, .bool t.want, .int .i64 t.come, .int .i64 t.lose, .int .i64 t.again, .int .i64 t.mix, .bool t.deaf]) := rfl
  clear hW hI hS hT hsi hmi hls hai
  obtain ⟨cs, hcs⟩ : ∃ x, x = t.cells := ⟨_, rfl⟩
  rw [← hcs]
  rw [HTC.out] at hcs
  subst hcs
  obtain ⟨QQ, HQQ⟩ : ∃ q, Hid (q = TickO B K (tickW V t) w) := ⟨_, rfl⟩
  rw [← HQQ.out] at HGO ⊢
  clear HQQ HTC
  go_enter Try.func22, Try.ntmps22
  refine wp_seq_k fun Kn hKn => ?_
  have HKn := hide' hKn
  clear hKn
  go_wp2_with fail
  refine HKn.out _ _ ?_
  have HTA : Hid (TkAt w (w.alloc (.cells #[.int .i64 t.ask, .bool t.want, .int .i64 t.come, .int .i64 t.lose, .int .i64 t.again, .int .i64 t.mix, .bool t.deaf] 55)) B K w.heap.size t V) := by
    have hb := below_al w (.cells #[.int .i64 t.ask, .bool t.want, .int .i64 t.come, .int .i64 t.lose, .int .i64 t.again, .int .i64 t.mix, .bool t.deaf] 55)
    exact ⟨alloc_new w _, ⟨_, _, _, _, _, _, HW.out.below hb⟩, bl_of hb (Nat.le_trans HW.out.bk (Nat.le_of_lt (lt_heap HW.out.cell)))⟩
  refine wp_mono (tail1 w V HI.out HT6.out.2.2.2.2 HT6.out.1 HT6.out.2.1 HT6.out.2.2.1 HT6.out.2.2.2.1 HSZ.out.1 HSZ.out.2.1 HSZ.out.2.2 _ _ _ _ _ _ _ _ _ _ _ _ _ _ _ _ _ _ _ _ _ _ _ _ _ _ _ _ _ _ _ _ _ _ _ _ _ _ _ _ _ _ _ _ _ _ _ _ _ _ _ _ _ _ _ _ _ _ _ _ _ _ _ _ _ _ _ _ _ _ _ _ _ _ _ _ _ _ _ _ _ _ _ _ _ _ _ _ _ _ _ _ _ _ _ _ _ _ _ _ _ _ _ _ _ _ _ _ _ _ _ _ _ _ _ _ _ _ _ _ _ _ _ _ _ _ _ _ _ _ _ _ _ _ _ _ _ _ _ _ _ _ _ _ _ _ _ _ _ _ _ _ _ _ _ _ _ _ _ _ _ _ _ _ _ _ _ _ _ _ _ _ _ _ _ _ _ _ _ _ _ _ _ _ _ _ _ _ _ _ _ _ _ _ _ _ _ _ _ _ _ _ _ _ _ _ _ _ _ _ _ _ _ _ _ _ _ _ _ _ _ _ _ _ _ _ _ _ _ _ _ _ HTA.out (calmQ _) (fun _ _ _ _ h => h) ?_) (fun e a w h => calm_le h)
  intro _ _ _ _ _ _ _ _ _ _ _ _ _ _ _ _ _ _ _ _ _ _ _ _ _ _ _ _ _ _ _ _ _ _ _ _ _ _ _ _ _ _ _ _ _ _ _ _ _ _ _ _ _ _ _ _ _ _ _ _ _ _ _ _ _ _ _ _ _ _ _ _ _ _ _ _ _ _ _ _ _ _ _ _ _ _ _ _ _ _ _ _ _ _ _ _ _ _ _ _ _ _ _ _ _ _ _ _ _ _ _ _ _ _ _ _ _ _ _ _ _ _ _ _ _ _ _ _ _ _ _ _ _ _ _ _ _ _ _ _ _ _ _ _ _ _ _ _ _ _ _ _ _ _ _ _ _ _ _ _ _ _ _ _ _ _ _ _ _ _ _ _ _ _ _ _ _ _ _ _ _ _ _ _ _ _ _ _ _ _ _ _ _ _ _ _ _ _ _ _ _ _ _ _ _ _ _ _ _ _ _ _ _ _ _ _ _ _ _ _ _ _ _ _ _ _ _ _ _ _ z' h
  refine calm_ret ?_
  go_ret
  exact HGO.out _ _ h
end Go.Proofs.Ytjhmendiefojoam
