/- The way in a tick: what lies where. -/
import Derived.Test.YtjhmendiefojoamOf
import Derived.Test.YtjhmendiefojoamOh
namespace Go.Proofs.Ytjhmendiefojoam
open Go.RowKit Go.Shelf

/-- Both ends at K, the turn at T. -/
structure TkAt (w z : World) (B K Tb : Nat) (t : TuM) (W : Wl) : Prop where
  box : z.heap[Tb]? = some (.cells t.cells 55 (0, 0))
  wat : ∃ pv dv uv ov av cv, WAt z B K W pv dv uv ov av cv
  bl : Bl B w z
theorem TkAt.next {w z z' : World} {B K Tb : Nat} {t : TuM} {W W' : Wl} (h : TkAt w z B K Tb t W) (hw : ∃ pv dv uv ov av cv, WAt z' B K W' pv dv uv ov av cv) (hb : Bl B z z') : TkAt w z' B K Tb t W' := ⟨(hb.t Tb _ h.box).trans h.box, hw, h.bl.trans hb⟩
theorem TkAt.bs {w z : World} {B K Tb : Nat} {t : TuM} {W : Wl} (h : TkAt w z B K Tb t W) : B ≤ z.heap.size := by
  obtain ⟨_, _, _, _, _, _, q⟩ := h.wat
  exact Nat.le_trans q.bk (Nat.le_of_lt (lt_heap q.cell))
theorem TkAt.below {w z z' : World} {B K Tb : Nat} {t : TuM} {W : Wl} (h : TkAt w z B K Tb t W) (hb : Below z.heap.size z z') : TkAt w z' B K Tb t W := by
  obtain ⟨pv, dv, uv, ov, av, cv, q⟩ := id h.wat
  exact h.next ⟨pv, dv, uv, ov, av, cv, q.below hb⟩ (bl_of hb h.bs)
/-- A new row on the way down, on the way up. -/
theorem WAt.dnN {w : World} {B K n : Nat} {W : Wl} {pv dv uv ov av cv dv' : Value} (h : WAt w B K W pv dv uv ov av cv) {d : List MsM} (ho : w.ownsRow B 39 4 dv' n (msgs d)) (hn : n = d.length) (h1 : Apart dv' uv) (h2 : Apart dv' ov) (h3 : Apart dv' av) : WAt (w.setCell ⟨K, 17, none⟩ dv') B K (W.down1 d) pv dv' uv ov av cv ∧ Bl B w (w.setCell ⟨K, 17, none⟩ dv') := by
  have hK := keep_set h.cell 17 dv'
  exact ⟨⟨(set_any h.cell 17 _).trans (by unfold wlV; simp only [List.setIfInBounds_toArray, List.set_cons_zero, List.set_cons_succ]; rfl), h.bk, own_keep h.pts hK (by decide), own_keep (by subst hn; exact ho) hK (by decide), own_keep h.up hK (by decide), own_keep h.od hK (by decide), own_keep h.ak hK (by decide), own_keep h.ac hK (by decide), h1, h2, h3, h.auo, h.aua, h.aoa⟩, (Below.refl B w).setCell (p := ⟨K, 17, none⟩) h.bk _, fun k _ hk => hK k _ 55 (0, 0) hk (by decide)⟩
theorem WAt.upN {w : World} {B K n : Nat} {W : Wl} {pv dv uv ov av cv uv' : Value} (h : WAt w B K W pv dv uv ov av cv) {d : List MsM} (ho : w.ownsRow B 39 4 uv' n (msgs d)) (hn : n = d.length) (h1 : Apart dv uv') (h2 : Apart uv' ov) (h3 : Apart uv' av) : WAt (w.setCell ⟨K, 18, none⟩ uv') B K (W.up1 d) pv dv uv' ov av cv ∧ Bl B w (w.setCell ⟨K, 18, none⟩ uv') := by
  have hK := keep_set h.cell 18 uv'
  exact ⟨⟨(set_any h.cell 18 _).trans (by unfold wlV; simp only [List.setIfInBounds_toArray, List.set_cons_zero, List.set_cons_succ]; rfl), h.bk, own_keep h.pts hK (by decide), own_keep h.dn hK (by decide), own_keep (by subst hn; exact ho) hK (by decide), own_keep h.od hK (by decide), own_keep h.ak hK (by decide), own_keep h.ac hK (by decide), h1, h.ado, h.ada, h2, h3, h.aoa⟩, (Below.refl B w).setCell (p := ⟨K, 18, none⟩) h.bk _, fun k _ hk => hK k _ 55 (0, 0) hk (by decide)⟩
/-- A row begun later lies apart from one that was there. -/
theorem apart_late {w w' : World} {B e e' s s' n n' : Nat} {v u : Value} {xs ys : List Value} (hu : w.ownsRow B e s u n xs) (hv : w'.ownsRow w.heap.size e' s' v n' ys) : Apart v u := fun k hk q => by
  have h1 := own_lt hu q
  have h2 := own_at hv k hk
  omega
/-- One message comes down; one comes up. -/
def dnStep (mix lose : Int) (i : Nat) (W : Wl) : Wl := if lostB lose i then W.down1 (W.down.eraseIdx (pickK W.down.length (wrap64 (mix + i)))) else (W.down1 (W.down.eraseIdx (pickK W.down.length (wrap64 (mix + i))))).hear (W.down.getD (pickK W.down.length (wrap64 (mix + i))) noMsg)
def upStep (mix : Int) (deaf : Bool) (i : Nat) (W : Wl) : Wl := if deaf then W.up1 (W.up.eraseIdx (pickK W.up.length (wrap64 (mix.tdiv 7 + i)))) else (W.up1 (W.up.eraseIdx (pickK W.up.length (wrap64 (mix.tdiv 7 + i))))).sent (heardM W.m (W.up.getD (pickK W.up.length (wrap64 (mix.tdiv 7 + i))) noMsg)) (heardL W.m (W.up.getD (pickK W.up.length (wrap64 (mix.tdiv 7 + i))) noMsg))
theorem downW_step (come mix lose : Int) (f i : Nat) (W : Wl) (h : (i : Int) < come) : downW come mix lose (f + 1) i W = downW come mix lose f (i + 1) (dnStep mix lose i W) := if_pos h
theorem upW_step (come mix : Int) (deaf : Bool) (f i : Nat) (W : Wl) (h : (i : Int) < come) : upW come mix deaf (f + 1) i W = upW come mix deaf f (i + 1) (upStep mix deaf i W) := if_pos h
theorem and_one_i64 (x : Int) : bits BinOp.and IntKind.i64 x 1 = x % 2 := by
  have h1 : (BitVec.ofInt 64 x &&& BitVec.ofInt 64 1).toNat = (x % 2).toNat := by
    rw [BitVec.toNat_and, BitVec.toNat_ofInt, show (BitVec.ofInt 64 1).toNat = 1 from rfl, Nat.and_one_is_mod]
    omega
  have h2 : bits BinOp.and IntKind.i64 x 1 = IntKind.i64.wrap ((BitVec.ofInt 64 x &&& BitVec.ofInt 64 1).toNat : Int) := rfl
  rw [h2, h1]
  have h3 : ((x % 2).toNat : Int) = x % 2 := by omega
  rw [h3]
  exact wrap_ok (by omega)
theorem bit_lost (lose : Int) (i : Nat) : lostB lose i = decide (bits BinOp.and IntKind.i64 (lose / 2 ^ (i % 60)) 1 ≠ 0) := by
  rw [and_one_i64]
  rfl
theorem dnStep_facts {pat lim P mix lose : Int} {T : Nat} {V : Wl} (i : Nat) (h : Inv pat lim P T V) (hT : T ≤ 1000) (hn : 0 < V.down.length) : Inv pat lim P T (dnStep mix lose i V) ∧ (dnStep mix lose i V).down.length = V.down.length - 1 ∧ (dnStep mix lose i V).up.length ≤ V.up.length + 1 ∧ (dnStep mix lose i V).acted.length ≤ V.acted.length + 1 := by
  have hk := pickK_lt (n := V.down.length) (mix := wrap64 (mix + i)) hn
  unfold dnStep
  have h1 : Inv pat lim P T (V.down1 (V.down.eraseIdx (pickK V.down.length (wrap64 (mix + i))))) := h.less (fun x hx => .inl (List.mem_of_mem_eraseIdx hx))
  have h2 : (V.down.eraseIdx (pickK V.down.length (wrap64 (mix + i)))).length = V.down.length - 1 := List.length_eraseIdx_of_lt hk
  split
  · exact ⟨h1, h2, Nat.le_succ _, Nat.le_succ _⟩
  · obtain ⟨q1, q2, _, q4⟩ := hear_sz (V.down1 (V.down.eraseIdx (pickK V.down.length (wrap64 (mix + i))))) (V.down.getD (pickK V.down.length (wrap64 (mix + i))) noMsg)
    exact ⟨h1.hear hT (h.dn _ (getD_msg hk)), by rw [q1]; exact h2, q2, q4⟩
theorem upStep_facts {pat lim P mix : Int} {deaf : Bool} {T : Nat} {V : Wl} (i : Nat) (h : Inv pat lim P T V) (hn : 0 < V.up.length) : Inv pat lim P T (upStep mix deaf i V) ∧ (upStep mix deaf i V).up.length = V.up.length - 1 ∧ (upStep mix deaf i V).down.length ≤ V.down.length + 1 ∧ (upStep mix deaf i V).old.length ≤ V.old.length + 1 := by
  have hk := pickK_lt (n := V.up.length) (mix := wrap64 (mix.tdiv 7 + i)) hn
  unfold upStep
  have h1 : Inv pat lim P T (V.up1 (V.up.eraseIdx (pickK V.up.length (wrap64 (mix.tdiv 7 + i))))) := h.less' (fun x hx => List.mem_of_mem_eraseIdx hx)
  have h2 : (V.up.eraseIdx (pickK V.up.length (wrap64 (mix.tdiv 7 + i)))).length = V.up.length - 1 := List.length_eraseIdx_of_lt hk
  have ho := heard_one V.m (V.up.getD (pickK V.up.length (wrap64 (mix.tdiv 7 + i))) noMsg)
  split
  · exact ⟨h1, h2, Nat.le_succ _, Nat.le_succ _⟩
  · refine ⟨h1.sent (heard_may h.may _).1 (heard_may h.may _).2 (heard_out h.may _ h.bz), h2, ?_, ?_⟩
    · show (V.down ++ _).length ≤ _
      rw [List.length_append]
      omega
    · show (V.old ++ _).length ≤ _
      rw [List.length_append]
      omega
def loopsIn : Code → List Code
  | .loop c => [c]
  | .seq a b => loopsIn a ++ loopsIn b
  | .block _ c => loopsIn c
  | .scope c => loopsIn c
  | .cond _ a b => loopsIn a ++ loopsIn b
  | _ => []
def bodyDF (f : Func) : Code := ((f.body.map loopsIn).getD [])[0]?.getD .skip
def bodyUF (f : Func) : Code := ((f.body.map loopsIn).getD [])[1]?.getD .skip
end Go.Proofs.Ytjhmendiefojoam
