/- The program's own parting of a text into lines, and of a line into words. -/
import Derived.Test.YtpbalclhdhjnoaaGreatDoorKB8
import Derived.Test.YtpbalclhdhjnoaaGreatDoorKD1
import Derived.Test.YtpbalclhdhjnoaaGreatDoorKD2
import Derived.Test.YtpbalclhdhjnoaaGreatDoorKShelf
import Derived.Shelf.Abstract
import Derived.OwnWalkIn
import Derived.TacticsInMore
import Derived.LoopNIn
import Derived.LoopIn
namespace Go.Proofs.YtpbalclhdhjnoaaGreatDoor
open Go.RowKit Go.Shelf

theorem wide_fn (f : FuncId) : Fence.wide.fn f = True := rfl
theorem wide_depth : Fence.wide.depth = none := rfl
attribute [local go_sem] Oper.semAt_some wide_fn wide_depth

theorem isBlank_rune (x : Nat) (hx : x ≤ 1114111) (w : World) : Calls Tryz.prog 61 #[.int .i32 x] w fun e w' => e = .returned (.bool (blankR x)) ∧ w' = w := by
  unfold blankR
  by_cases h9 : x = 9
  · subst h9
    go_enter Tryz.func61, Tryz.ntmps61
    go_wp2
    go_ret
    exact ⟨rfl, rfl⟩
  by_cases h13 : x = 13
  · subst h13
    go_enter Tryz.func61, Tryz.ntmps61
    go_wp2
    go_ret
    exact ⟨rfl, rfl⟩
  by_cases h32 : x = 32
  · subst h32
    go_enter Tryz.func61, Tryz.ntmps61
    go_wp2
    go_ret
    exact ⟨rfl, rfl⟩
  have e9 : ((x : Int) == 9) = false := by simp; omega
  have e13 : ((x : Int) == 13) = false := by simp; omega
  have e32 : ((x : Int) == 32) = false := by simp; omega
  have he : (x == 9 || x == 13 || x == 32) = false := by simp; omega
  rw [he]
  clear h9 h13 h32 he
  go_enter Tryz.func61, Tryz.ntmps61
  go_wp2
  go_ret
  exact ⟨rfl, rfl⟩
theorem isBlank_pred (w : World) : PredAtRunes Tryz.prog 61 #[] blankR w := fun W x hx _ => (isBlank_rune x hx W).mono fun _ _ ⟨he, hw⟩ => ⟨he, 0, hw⟩
theorem cut_any (t : ByteArray) (c : UInt8) (mx : Int) (w : World) (ht : t.size ≤ 20000) (hm : w.cell? ⟨1, 0, none⟩ = some (.int .i64 mx)) :
    Calls Tryz.prog 59 #[.string t, .string ⟨#[c]⟩] w fun e w' => e = .returned (.tuple #[.string (textOf (Lib.cut (bytesOf t) [c]).1), .string (textOf (Lib.cut (bytesOf t) [c]).2.1), .bool (Lib.cut (bytesOf t) [c]).2.2]) ∧ Below w.heap.size w w' := by
  refine (Tryz.strings_Cut t ⟨#[c]⟩ mx w (by omega) hm).mono ?_
  rintro e w' ⟨rfl, n, rfl⟩
  exact ⟨rfl, below_drewN' (Below.refl _ _) n⟩
theorem eg26 : ∀ args w, (callFunc 61 args).run Tryz.prog w = .ok (.enter 61 args) w := enters_of Tryz.func61 (by kernel_rfl) rfl
/-- The words of a line, in memory of their own. -/
def Wd (A : World) (v : Value) (ws : List ByteArray) : Prop := ∃ bw base, v = .slice (some ⟨bw, 0, none⟩) ws.length ws.length ∧ A.ownsRow base 9 1 v ws.length (ws.map Value.string)
theorem fields_any (t : ByteArray) (w : World) (ht : t.size ≤ 20000) :
    Calls Tryz.prog 60 #[.string t, .func (.func 61) #[] #[]] w fun e w' => ∃ bw, e = .returned (.slice (some ⟨bw, 0, none⟩) (Lib.goFieldsP blankR t).length (Lib.goFieldsP blankR t).length) ∧ Wd w' (.slice (some ⟨bw, 0, none⟩) (Lib.goFieldsP blankR t).length (Lib.goFieldsP blankR t).length) (Lib.goFieldsP blankR t) ∧ Below w.heap.size w w' := by
  refine (Tryz.strings_FieldsFunc_runes 61 #[] eg26 blankR t w (by omega) (isBlank_pred w)).mono ?_
  rintro e w' ⟨A, rfl, _, hown, hb⟩
  exact ⟨A, rfl, ⟨A, _, rfl, hown⟩, hb⟩
theorem fields_words (l : List UInt8) : Lib.goFieldsP blankR (textOf (said l)) = wordsB (textOf l) := by
  unfold wordsB
  refine map_textOf ?_
  rw [goFields_eq, bytesOf_textOf, bytesOf_textOf]
  rfl
theorem lines_cut (t : ByteArray) : (∃ x y, Lib.cut (bytesOf t) [10] = (x, y, true) ∧ linesB t = textOf x :: linesB (textOf y) ∧ x.length ≤ t.size ∧ y.length < t.size) ∨ (Lib.cut (bytesOf t) [10] = (bytesOf t, [], false) ∧ linesB t = [t]) := by
  rcases cut_lines (bytesOf t) with ⟨x, y, h1, h2, h3, h4⟩ | ⟨h1, h2⟩
  · rw [length_bytesOf] at h3 h4
    refine .inl ⟨x, y, h1, ?_, h3, h4⟩
    unfold linesB
    rw [h2, bytesOf_textOf]
    rfl
  · refine .inr ⟨h1, ?_⟩
    unfold linesB
    rw [h2, List.map_singleton, textOf_bytesOf]

/-- A line has come: its number and its words are handed to the round. -/
def StepL (i i' : List ByteArray × Nat) (args : Array Value) (A : World) : Prop := ∃ line v, i.1 = line :: i'.1 ∧ i'.2 = i.2 + 1 ∧ args = #[.int .i64 ((i.2 : Int) + 1), v] ∧ Wd A v (wordsB line)
def restL (t : ByteArray) (mr : Bool) : List ByteArray := if mr = true then linesB t else []

set_option maxRecDepth 100000 in
set_option maxHeartbeats 2000000 in
theorem lines1_seq (s : ByteArray) (hs : s.size ≤ 20000) (Bs : Nat) (mx : Int) (w0 : World) (hBs : Bs < w0.heap.size) (hc : w0.cell? ⟨Bs, 0, none⟩ = some (.string s)) :
    SeqP Tryz.prog 58 #[.pointer (some ⟨Bs, 0, none⟩)] (fun A => A.cell? ⟨1, 0, none⟩ = some (.int .i64 mx)) (linesB s, 0) StepL (fun i => i.1 = []) w0 := by
  intro l J Jp W hW hJ hK hY h0
  have hcW := (hW.cell (p := ⟨Bs, 0, none⟩) hBs).trans hc
  clear hc hBs hW
  refine (callsIn_wide (n := 0)).1 ?_
  refine callsIn_of_wp Tryz.func58 rfl trivial ?_ rfl
  simp only [Tryz.ntmps58, List.size_toArray, List.length_cons, List.length_nil, Nat.reduceAdd, Nat.reduceSub, Array.replicate_succ, Array.replicate_zero, List.push_toArray, List.append_toArray, List.nil_append, List.cons_append]
  gi_wp2
  gi_loopw [3, 4, 5] (fun r m i wr => ∃ (t : ByteArray) (mr : Bool) (k : Nat), r = .string t ∧ m = .bool mr ∧ i = .int .i64 ((k : Int) + 1) ∧ t.size + k ≤ 20001 ∧ t.size ≤ 20000 ∧ (mr = true → t.size + k ≤ 20000) ∧ Hid (J (restL t mr, k) wr))
    (fun r m _ _ => match m, r with | .bool true, .string t => t.size + 1 | _, _ => 0)
  case atStart => exact ⟨s, true, 0, rfl, rfl, rfl, by omega, hs, by omega, h0⟩
  case round =>
    obtain ⟨t, mr, k, rfl, rfl, rfl, hk, ht, hk2, HJ⟩ := hrel
    cases mr with
    | false =>
      gi_wp2
      go_end0
      exact .inl ⟨_, rfl, _, rfl, HJ.out⟩
    | true =>
      have hm := hK _ _ HJ.out
      have c1 := cut_any t 10 mx wr ht hm
      have c2 : ∀ (x : List UInt8) (W : World), x.length ≤ 20000 → W.cell? ⟨1, 0, none⟩ = some (.int .i64 mx) → Calls Tryz.prog 59 #[.string (textOf x), .string ⟨#[35]⟩] W fun e w' => ∃ y2 b2, e = .returned (.tuple #[.string (textOf (said x)), .string y2, .bool b2]) ∧ Below W.heap.size W w' := by
        intro x W hx hW
        refine (cut_any (textOf x) 35 mx W (by rw [size_textOf]; exact hx) hW).mono ?_
        rintro e w' ⟨rfl, hb⟩
        rw [bytesOf_textOf, cut_said]
        exact ⟨_, _, rfl, hb⟩
      have c3 : ∀ (x : List UInt8) (W : World), x.length ≤ 20000 → Calls Tryz.prog 60 #[.string (textOf (said x)), .func (.func 61) #[] #[]] W fun e w' => ∃ v, e = .returned v ∧ Wd w' v (wordsB (textOf x)) ∧ Below W.heap.size W w' := by
        intro x W hx
        have h := fields_any (textOf (said x)) W (by rw [size_textOf]; have := said_len x; omega)
        rw [fields_words] at h
        refine h.mono ?_
        rintro e w' ⟨bw, rfl, h1, h2⟩
        exact ⟨_, rfl, h1, h2⟩
      have H0 : ∀ (line : ByteArray) (rest : List ByteArray) (v : Value) (w1 w2 w3 : World), linesB t = line :: rest → Below wr.heap.size wr w1 → Below w1.heap.size w1 w2 → Below w2.heap.size w2 w3 → Wd w3 v (wordsB line) →
          YieldAt Fence.wide 0 Tryz.prog l #[.int .i64 ((k : Int) + 1), v] w3 fun e B => (e = .returned (.bool true) ∧ J (rest, k + 1) B) ∨ ∃ ch, e = .panicked ch ∧ Jp ch B := by
        intro line rest v w1 w2 w3 hl h1 h2 h3 hwd
        refine hY (line :: rest, k) (rest, k + 1) _ w3 ?_ ⟨line, v, rfl, rfl, rfl, hwd⟩
        rw [← hl]
        exact hJ _ _ _ (hJ _ _ _ (hJ _ _ _ HJ.out h1) h2) h3
      have hk3 := hk2 rfl
      have C2 := hide' c2
      have C3 := hide' c3
      have HY := hide' H0
      clear HJ hY hJ hK h0 hcW c2 c3 H0 hk2
      rcases lines_cut t with ⟨x, y, e1, e2, e3, e4⟩ | ⟨e1, e2⟩
      · rw [e1] at c1
        have C1 := hide' c1
        have E2 := hide' e2
        clear c1 e1 e2
        gi_wp2_with (first
          | (gi_at_call 60; refine ((callsIn_wide (n := 0)).2 (C3.out x _ (by omega))).mono ?_; rintro e w3 ⟨v, rfl, hwd, hb3⟩; obtain ⟨fn, tmps, assign, body, hy, hR⟩ := HY.out _ _ v w1 w2 w3 E2.out hb1 hb2 hb3 hwd)
          | (gi_at_call 59; refine ((callsIn_wide (n := 0)).2 (C2.out x w1 (by omega) hm1)).mono ?_; rintro e w2 ⟨y2, b2, rfl, hb2⟩)
          | (gi_at_call 59; refine ((callsIn_wide (n := 0)).2 C1.out).mono ?_; rintro e w1 ⟨rfl, hb1⟩; have hm1 := (hb1.cell (p := ⟨1, 0, none⟩) (World.block_lt_of_cell? wr _ hm)).trans hm))
        refine hR.mono ?_
        rintro e W3 (⟨rfl, hJ3⟩ | ⟨ch, rfl, hp⟩)
        · have HJ3 := hide' hJ3
          clear hJ3
          gi_wp2
          go_roundw
          case rel => exact ⟨textOf y, true, k + 1, rfl, rfl, by go_num, by rw [size_textOf]; omega, by rw [size_textOf]; omega, (fun _ => by rw [size_textOf]; omega), HJ3.out⟩
          case measure => simp only [size_textOf]; omega
        · exact ⟨rfl, .inr ⟨ch, rfl, hp⟩⟩
      · rw [e1, textOf_bytesOf] at c1
        have C1 := hide' c1
        have E2 := hide' e2
        clear c1 e1 e2
        have ht2 : (bytesOf t).length ≤ 20000 := by rw [length_bytesOf]; exact ht
        have C4 := hide' (C2.out (bytesOf t))
        have C5 := hide' (C3.out (bytesOf t))
        rw [textOf_bytesOf] at C4 C5
        clear C2 C3
        gi_wp2_with (first
          | (gi_at_call 60; refine ((callsIn_wide (n := 0)).2 (C5.out _ ht2)).mono ?_; rintro e w3 ⟨v, rfl, hwd, hb3⟩; obtain ⟨fn, tmps, assign, body, hy, hR⟩ := HY.out _ _ v w1 w2 w3 E2.out hb1 hb2 hb3 hwd)
          | (gi_at_call 59; refine ((callsIn_wide (n := 0)).2 (C4.out w1 ht2 hm1)).mono ?_; rintro e w2 ⟨y2, b2, rfl, hb2⟩)
          | (gi_at_call 59; refine ((callsIn_wide (n := 0)).2 C1.out).mono ?_; rintro e w1 ⟨rfl, hb1⟩; have hm1 := (hb1.cell (p := ⟨1, 0, none⟩) (World.block_lt_of_cell? wr _ hm)).trans hm))
        refine hR.mono ?_
        rintro e W3 (⟨rfl, hJ3⟩ | ⟨ch, rfl, hp⟩)
        · have HJ3 := hide' hJ3
          clear hJ3
          gi_wp2
          go_roundw
          case rel => exact ⟨textOf [], false, k + 1, rfl, rfl, by go_num, by rw [size_textOf]; simp; omega, by rw [size_textOf]; simp, (fun h => by cases h), HJ3.out⟩
          case measure => simp
        · exact ⟨rfl, .inr ⟨ch, rfl, hp⟩⟩
end Go.Proofs.YtpbalclhdhjnoaaGreatDoor
