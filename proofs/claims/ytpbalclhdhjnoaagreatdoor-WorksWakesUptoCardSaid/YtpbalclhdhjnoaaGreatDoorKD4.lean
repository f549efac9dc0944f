/- The program's reader between two lines: what is borne on; what a line with its words leaves. -/
import Derived.Test.YtpbalclhdhjnoaaGreatDoorKC6
import Derived.Test.YtpbalclhdhjnoaaGreatDoorKD3
namespace Go.Proofs.YtpbalclhdhjnoaaGreatDoor
open Go.RowKit Go.Maps
open scoped Classical

section
variable {w w' A : World} {B Z K M : Nat} {N : NetM} {n : Nat} {f : Taken} {at_ : Int} {ws : List ByteArray} {b l g d t wv : Value}
theorem St.up (h : St w B Z K M N n f at_ []) {Z' : Nat} (hZ : Z ≤ Z') : St w B Z' K M N n f at_ [] := by
  obtain ⟨b, l, g, d, t, wv, h⟩ := h
  exact ⟨b, l, g, d, t, wv, h.box, h.owns, h.names, left_nil _ _ h.words, h.hBK, h.hBM, Nat.lt_of_lt_of_le h.hKZ hZ, Nat.lt_of_lt_of_le h.hMZ hZ, fun v hv k hk => Nat.lt_of_lt_of_le (h.hz v hv k hk) hZ⟩
theorem StV.putL (h : StV w B Z K M b l g d t wv N n f at_ []) {q : Nat} {r : Loop} (hq : w.heap[q]? = some (.loop r)) (r' : Loop) : StV (w.putObj q (.loop r')) B Z K M b l g d t wv N n f at_ [] := by
  have hKq : K ≠ q := by rintro rfl; rw [h.box] at hq; cases hq
  have hMq : M ≠ q := by rintro rfl; obtain ⟨es, cl, hb⟩ := h.names.block; rw [hb] at hq; cases hq
  have o := h.owns
  exact ⟨(World.putObj_heap_other hKq).trans h.box, ⟨ownsRow_putObj o.hb _ hq rfl, ownsRow_putObj o.hl _ hq rfl, ownsRow_putObj o.hg _ hq rfl, ownsRow_putObj o.hd _ hq rfl, ownsRow_putObj o.ht _ hq rfl⟩,
    h.names.of_block (World.putObj_heap_other hMq), left_nil _ _ h.words, h.hBK, h.hBM, h.hKZ, h.hMZ, h.hz⟩
theorem StV.top (h : StV w B Z K M b l g d t wv N n f at_ []) : St w B w.heap.size K M N n f at_ [] :=
  ⟨b, l, g, d, t, wv, StV.make h.box h.owns h.names (left_nil _ _ h.words) h.hBK h.hBM⟩

/-- What is borne from line to line: R is what the text comes to. -/
def RdI (w : World) (B K M : Nat) (R : (Int × Int) × NetM) (i : List ByteArray × Nat) (A : World) : Prop :=
  ∃ N n f, St A B A.heap.size K M N n f (i.2 : Int) [] ∧ Rel f N ∧ Fits N ∧ n ≤ 2 * (namesM N).length ∧ readGo i.1 i.2 N (!N.name.toList.isEmpty) = R ∧ Below B w A ∧ ∀ x ∈ i.1, x.size ≤ 20000
/-- The reader has given up. -/
def RdP (w : World) (B : Nat) (R : (Int × Int) × NetM) (ch : List PanicEntry) (A : World) : Prop :=
  R.1.1 ≠ 0 ∧ ch = [{ v := .iface 66 (.agg #[.int .i64 R.1.1, .int .i64 R.1.2]), recovered := false }] ∧ Below B w A
theorem RdI.later {R : (Int × Int) × NetM} {i : List ByteArray × Nat} (h : RdI w B K M R i A) (hb : Below A.heap.size A w') : RdI w B K M R i w' := by
  obtain ⟨N, n, f, hs, h1, h2, h3, h4, h5, h6⟩ := h
  have hs' := (hs.keep (w' := w') hb.block).up hb.size
  have hBA : B ≤ A.heap.size := by
    obtain ⟨b, l, g, d, t, wv, hs⟩ := hs
    have := hs.hBK; have := hs.lt; omega
  exact ⟨N, n, f, hs', h1, h2, h3, h4, h5.trans (hb.mono hBA), h6⟩
theorem below_putL {q : Nat} {o : Obj} (h : Below B w A) (hq : B ≤ q) : Below B w (A.putObj q o) :=
  ⟨h.os, h.tape, h.output, by rw [World.putObj_size]; exact h.size, fun k hk => (World.putObj_heap_other (by omega)).trans (h.block k hk)⟩
theorem RdI.putL {R : (Int × Int) × NetM} {i : List ByteArray × Nat} (h : RdI w B K M R i A) {q : Nat} {r : Loop} (hq : A.heap[q]? = some (.loop r)) (hB : B ≤ q) (r' : Loop) : RdI w B K M R i (A.putObj q (.loop r')) := by
  obtain ⟨N, n, f, ⟨b, l, g, d, t, wv, hs⟩, h1, h2, h3, h4, h5, h6⟩ := h
  exact ⟨N, n, f, (hs.putL hq r').top, h1, h2, h3, h4, below_putL h5 hB, h6⟩
end

theorem fieldsGo_count (l : List UInt8) : ∀ cur : List UInt8, (fieldsGo cur l).length ≤ l.length + 1 := by
  induction l with
  | nil => intro cur; unfold fieldsGo; split <;> simp
  | cons c r ih =>
    intro cur
    rw [fieldsGo]
    split
    · split
      · have := ih []; simp; omega
      · have := ih []; simp; omega
    · have := ih (cur ++ [c]); simp; omega
theorem words_count (line : ByteArray) : (wordsB line).length ≤ line.size + 1 := by
  have h1 := fieldsGo_count (said (bytesOf line)) []
  have h2 := said_len (bytesOf line)
  rw [length_bytesOf] at h2
  unfold wordsB wordsL
  rw [List.length_map]
  omega
theorem readGo_lineErr {l : ByteArray} {rest : List ByteArray} {i : Nat} {N : NetM} {k : ByteArray} {r : List ByteArray} (h : wordsB l = k :: r) (he : lineErr N k r ≠ 0) : readGo (l :: rest) i N (!N.name.toList.isEmpty) = ((lineErr N k r, ((i + 1 : Nat) : Int)), emptyNet) := by
  unfold lineErr at he ⊢
  by_cases hb : (k :: r).length ≠ longK k ∨ decide (k = kNet) = !N.name.toList.isEmpty
  · rw [if_pos hb]; exact readGo_form h hb
  · rw [if_neg hb] at he ⊢; exact readGo_err h hb he
theorem readGo_lineOk {l : ByteArray} {rest : List ByteArray} {i : Nat} {N : NetM} {k : ByteArray} {r : List ByteArray} (h : wordsB l = k :: r) (he : lineErr N k r = 0) : readGo (l :: rest) i N (!N.name.toList.isEmpty) = readGo rest (i + 1) (stepN N (k :: r)) (!(stepN N (k :: r)).name.toList.isEmpty) := by
  rw [named_step he named_not_empty]
  unfold lineErr at he
  by_cases hb : (k :: r).length ≠ longK k ∨ decide (k = kNet) = !N.name.toList.isEmpty
  · rw [if_pos hb] at he; cases he
  · rw [if_neg hb] at he; exact readGo_ok h hb (fun h' => h' he)
/-- The reader's struct when a line's number and words are in it. -/
def lineIn (A : World) (K : Nat) (i : Int) (v : Value) : World := (A.setCell ⟨K, 7, none⟩ (.int .i64 i)).setCell ⟨K, 8, none⟩ v
theorem lineIn_bel {A : World} {B K : Nat} (hBK : B ≤ K) (i : Int) (v : Value) : Bel B A (lineIn A K i v) := (set_below hBK 7 _).trans (set_below hBK 8 _)
theorem lineIn_size (A : World) (K : Nat) (i : Int) (v : Value) : (lineIn A K i v).heap.size = A.heap.size := by simp [lineIn, World.setCell]
theorem lineIn_st {A : World} {B Z K M : Nat} {b l g d t wv v : Value} {N : NetM} {n : Nat} {f : Taken} {at_ : Int} (h : StV A B Z K M b l g d t wv N n f at_ []) (i : Int) {ws : List ByteArray} (hv : Wd A v ws) (hl : ws.length ≤ 100000) :
    St (lineIn A K i v) B (lineIn A K i v).heap.size K M N n f i ws := by
  have hK := h.box
  have hK2 := set_box hK 7 (.int .i64 i)
  have hK3 := set_box hK2 8 v
  have o := h.owns
  have hM : TakenAt (lineIn A K i v) M n f := set_taken hK2 (set_taken hK h.names 7 _) 8 _
  refine ⟨b, l, g, d, t, v, StV.make hK3 ⟨set_own hK2 (set_own hK o.hb (by decide) 7 _) (by decide) 8 _, set_own hK2 (set_own hK o.hl (by decide) 7 _) (by decide) 8 _, set_own hK2 (set_own hK o.hg (by decide) 7 _) (by decide) 8 _, set_own hK2 (set_own hK o.hd (by decide) 7 _) (by decide) 8 _, set_own hK2 (set_own hK o.ht (by decide) 7 _) (by decide) 8 _⟩ hM ?_ h.hBK h.hBM⟩
  obtain ⟨bw, base, rfl, hown⟩ := hv
  refine ⟨hl, _, _, rfl, Nat.le_refl _, by unfold maxLen; omega, ?_⟩
  by_cases hw : ws = []
  · exact .inl hw
  · refine .inr ⟨bw, 0, rfl, ?_⟩
    rcases hown.2 with ⟨h0, _⟩ | ⟨gb, cap, cur, h3, h4, h5, h6⟩
    · cases h0
    · cases h3
      have hbK : bw ≠ K := by rintro rfl; rw [hK] at h5; cases h5
      have hbM : bw ≠ M := by rintro rfl; obtain ⟨es, cl, hb⟩ := h.names.block; rw [hb] at h5; cases h5
      have hlt := (Array.getElem?_eq_some_iff.1 h5).1
      refine ⟨by rw [lineIn_size]; exact hlt, hbK, hbM, fun j x hj => ?_⟩
      have hcell : A.cell? ⟨bw, 0 + j, none⟩ = some (.string x) := by
        obtain ⟨_, a, cap', ha, hc⟩ := rowAt_of_own hown
        cases ha
        obtain ⟨b', off, e1, e2⟩ := hc j (.string x) (by rw [List.getElem?_map, hj]; rfl)
        cases e1
        exact e2
      have hblk : (lineIn A K i (.slice (some ⟨bw, 0, none⟩) ws.length ws.length)).heap[bw]? = A.heap[bw]? := (Below.heap_setCell _ _ _ bw hbK).trans (Below.heap_setCell _ _ _ bw hbK)
      rw [World.cell?_of_block hblk]
      exact hcell
end Go.Proofs.YtpbalclhdhjnoaaGreatDoor
