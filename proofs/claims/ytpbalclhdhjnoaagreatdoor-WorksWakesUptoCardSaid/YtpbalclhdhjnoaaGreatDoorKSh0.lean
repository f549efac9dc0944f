/- Plain facts: a network's own text, read, is the network. -/
import Derived.Test.YtpbalclhdhjnoaaGreatDoorKC6
import Derived.Test.YtpbalclhdhjnoaaGreatDoorKB8
import Derived.Test.YtpbalclhdhjnoaaGreatDoorKD1
import Derived.Test.YtpbalclhdhjnoaaGreatDoorKPz
import Derived.Lib.ItoaNum
namespace Go.Proofs.YtpbalclhdhjnoaaGreatDoor
open Go.RowKit

/-- A word: it has letters, none of which parts words or lines. -/
def wordy (l : List UInt8) : Prop := l ≠ [] ∧ ∀ c ∈ l, blankU c = false ∧ c ≠ 10 ∧ c ≠ 35
def joinW : List (List UInt8) → List UInt8
  | [] => []
  | x :: r => match r with
    | [] => x
    | _ :: _ => x ++ 32 :: joinW r
theorem joinW_one (x : List UInt8) : joinW [x] = x := rfl
theorem joinW_cons (x y : List UInt8) (r : List (List UInt8)) : joinW (x :: y :: r) = x ++ 32 :: joinW (y :: r) := rfl
theorem join_mem : ∀ (ws : List (List UInt8)), (∀ x ∈ ws, wordy x) → ∀ c ∈ joinW ws, c ≠ 10 ∧ c ≠ 35
  | [], _ => fun c hc => by cases hc
  | [x], h => fun c hc => ((h x (by simp)).2 c hc).2
  | x :: y :: r, h => fun c hc => by
    rw [joinW_cons] at hc
    rcases List.mem_append.1 hc with hc | hc
    · exact ((h x (by simp)).2 c hc).2
    · rcases List.mem_cons.1 hc with rfl | hc
      · exact ⟨by decide, by decide⟩
      · exact join_mem (y :: r) (fun z hz => h z (by simp [hz])) c hc
theorem fields_join : ∀ (ws : List (List UInt8)), (∀ x ∈ ws, wordy x) → fieldsGo [] (joinW ws) = ws
  | [], _ => by rw [joinW, fieldsGo, if_pos rfl]
  | [x], h => by
    have hx := h x (by simp)
    have := fieldsGo_skip [] x [] (fun c hc => (hx.2 c hc).1)
    rw [List.append_nil, List.nil_append] at this
    rw [joinW_one, this, fieldsGo, if_neg hx.1]
  | x :: y :: r, h => by
    have hx := h x (by simp)
    rw [joinW_cons, fieldsGo_skip _ x [] (fun c hc => (hx.2 c hc).1), List.nil_append, fieldsGo, if_pos (by decide), if_neg hx.1, fields_join (y :: r) (fun z hz => h z (by simp [hz]))]
theorem words_join (ws : List (List UInt8)) (h : ∀ x ∈ ws, wordy x) : wordsL (joinW ws) = ws := by
  have hs : said (joinW ws) = joinW ws := by
    unfold said
    have := List.takeWhile_append_of_pos (p := fun c : UInt8 => c != 35) (l₂ := []) (fun d hd => by simpa using (join_mem ws h d hd).2)
    simpa using this
  rw [wordsL, hs, fields_join ws h]
theorem split_text : ∀ (ls : List (List UInt8)), (∀ l ∈ ls, ∀ c ∈ l, c ≠ 10) → splitL (ls.flatMap fun l => l ++ [10]) = ls ++ [[]]
  | [], _ => rfl
  | l :: r, h => by
    rw [List.flatMap_cons, List.append_assoc, List.singleton_append, splitL_at l _ (h l (by simp)), split_text r (fun x hx => h x (by simp [hx]))]
    rfl

/-- The lines that a network's text tells, word by word. -/
def lineT (ws : List ByteArray) : List UInt8 := joinW (ws.map bytesOf)
def textT (tl : List (List ByteArray)) : List UInt8 := tl.flatMap fun ws => lineT ws ++ [10]
/-- Line by line the reading goes on well, from n to m. -/
def StepsOk : NetM → Bool → List (List ByteArray) → NetM → Prop
  | n, bg, [], m => bg = true ∧ n = m
  | n, bg, ws :: tl, m => match ws with
    | [] => False
    | k :: r => (k :: r).length = longK k ∧ decide (k = kNet) ≠ bg ∧ stepE n (k :: r) = 0 ∧ StepsOk (stepN n (k :: r)) true tl m
theorem StepsOk.app : ∀ (a b : List (List ByteArray)) (n n' m : NetM) (bg : Bool), StepsOk n bg a n' → StepsOk n' true b m → StepsOk n bg (a ++ b) m
  | [], b, n, n', m, bg, h1, h2 => by obtain ⟨rfl, rfl⟩ := h1; exact h2
  | [] :: a, b, n, n', m, bg, h1, h2 => h1.elim
  | (k :: r) :: a, b, n, n', m, bg, h1, h2 => by
    obtain ⟨e1, e2, e3, e4⟩ := h1
    exact ⟨e1, e2, e3, StepsOk.app a b _ n' m true e4 h2⟩
theorem wordsB_lineT (ws : List ByteArray) (h : ∀ x ∈ ws, wordy (bytesOf x)) : wordsB (textOf (lineT ws)) = ws := by
  unfold wordsB lineT
  rw [bytesOf_textOf, words_join _ (fun x hx => by obtain ⟨y, hy, rfl⟩ := List.mem_map.1 hx; exact h y hy), List.map_map]
  have : (textOf ∘ bytesOf) = id := by funext s; exact textOf_bytesOf s
  rw [this, List.map_id]
theorem wordsB_nil : wordsB (textOf []) = [] := by
  unfold wordsB
  rw [bytesOf_textOf]
  rfl
theorem readGo_told : ∀ (tl : List (List ByteArray)) (i : Nat) (n m : NetM) (bg : Bool), (∀ ws ∈ tl, ∀ x ∈ ws, wordy (bytesOf x)) → StepsOk n bg tl m →
    readGo (tl.map (fun ws => textOf (lineT ws)) ++ [textOf []]) i n bg = ((0, 0), m)
  | [], i, n, m, bg, _, h => by
    obtain ⟨rfl, rfl⟩ := h
    rw [List.map_nil, List.nil_append, readGo_nil wordsB_nil, readGo, if_pos rfl]
  | [] :: tl, i, n, m, bg, _, h => h.elim
  | (k :: r) :: tl, i, n, m, bg, hw, h => by
    obtain ⟨e1, e2, e3, e4⟩ := h
    have hws := wordsB_lineT (k :: r) (hw _ (by simp))
    rw [List.map_cons, List.cons_append, readGo_ok hws (fun h => h.elim (fun h => h e1) e2) (by rw [e3]; simp)]
    exact readGo_told tl (i + 1) _ m true (fun ws hx => hw ws (by simp [hx])) e4
theorem lineT_no10 (ws : List ByteArray) (h : ∀ x ∈ ws, wordy (bytesOf x)) : ∀ c ∈ lineT ws, c ≠ 10 := fun c hc =>
  (join_mem _ (fun x hx => by obtain ⟨y, hy, rfl⟩ := List.mem_map.1 hx; exact h y hy) c hc).1
theorem linesB_text (tl : List (List ByteArray)) (h : ∀ ws ∈ tl, ∀ x ∈ ws, wordy (bytesOf x)) : linesB (textOf (textT tl)) = tl.map (fun ws => textOf (lineT ws)) ++ [textOf []] := by
  unfold linesB textT
  rw [bytesOf_textOf]
  have e : (tl.flatMap fun ws => lineT ws ++ [10]) = (tl.map lineT).flatMap fun l => l ++ [10] := by rw [List.flatMap_map]
  rw [e, split_text _ (fun l hl => by obtain ⟨ws, hws, rfl⟩ := List.mem_map.1 hl; exact lineT_no10 ws (h ws hws)), List.map_append, List.map_map]
  rfl
/-- A text whose lines go on well is read as what they come to. -/
theorem read_text (tl : List (List ByteArray)) (m : NetM) (hw : ∀ ws ∈ tl, ∀ x ∈ ws, wordy (bytesOf x)) (h : StepsOk emptyNet false tl m) (hs : (textT tl).length ≤ 20000) : readNetM (textOf (textT tl)) = ((0, 0), m) := by
  unfold readNetM
  rw [size_textOf, if_neg (by omega), linesB_text tl hw]
  exact readGo_told tl 0 emptyNet m false hw h

def decB (v : Int) : ByteArray := textOf (Lib.itoa v)
def busAt (N : NetM) (i : Int) : ByteArray := N.buses.getD i.toNat ⟨#[]⟩
def wordsLine (N : NetM) (x : LineM) : List ByteArray := [kLine, x.name, busAt N x.frm, busAt N x.to, decB x.worth, decB x.limit]
def wordsTie (N : NetM) (x : TieM) : List ByteArray := [kTie, x.name, busAt N x.frm, busAt N x.to, if x.closed then kClosed else kOpen]
theorem new_ok {n : NetM} {x : ByteArray} {a b : Int} (h1 : nameL (bytesOf x) = true) (h2 : x ∉ namesM n) (h3 : a < b) : newNameE n x a b = 0 := by
  unfold newNameE
  rw [h1, if_neg (by decide), placeL_no (fun j hj e => h2 (by rw [← e]; exact List.getElem_mem hj)), if_neg (by decide), if_neg (by omega)]
theorem place_at {xs : List ByteArray} (h : xs.Nodup) {i : Nat} (hi : i < xs.length) : placeL xs xs[i] = i :=
  placeL_yes hi (fun j hj hlt e => List.pairwise_iff_getElem.1 h j i hj hi hlt e) rfl
theorem busAt_place {N : NetM} (h : N.buses.Nodup) {i : Int} (h0 : 0 ≤ i) (h1 : i < N.buses.length) : placeL N.buses (busAt N i) = i ∧ busAt N i ∈ N.buses := by
  obtain ⟨u, rfl⟩ := Int.eq_ofNat_of_zero_le h0
  have hu : u < N.buses.length := by omega
  have e : busAt N (u : Int) = N.buses[u] := by
    unfold busAt
    rw [Int.toNat_natCast, List.getD_eq_getElem?_getD, List.getElem?_eq_getElem hu]
    rfl
  rw [e]
  exact ⟨place_at h hu, List.getElem_mem hu⟩

theorem steps_buses (nm : ByteArray) : ∀ (post pre : List ByteArray), (∀ x ∈ post, nameL (bytesOf x) = true) → (pre ++ post).Nodup → (pre ++ post).length ≤ 16 →
    StepsOk ⟨nm, pre, [], [], [], []⟩ true (post.map fun b => [kBus, b]) ⟨nm, pre ++ post, [], [], [], []⟩
  | [], pre, _, _, _ => by rw [List.append_nil]; exact ⟨rfl, rfl⟩
  | b :: r, pre, h1, h2, h3 => by
    have hn : b ∉ pre := fun hb => by
      have := (List.nodup_append.1 h2).2.2 b hb b (by simp)
      exact this rfl
    have hstep : stepE ⟨nm, pre, [], [], [], []⟩ [kBus, b] = 0 := by
      rw [stepE, if_neg (by decide)]
      refine new_ok (h1 b (by simp)) ?_ ?_
      · simpa [namesM] using hn
      · simp at h3 ⊢; omega
    have hnext : stepN ⟨nm, pre, [], [], [], []⟩ [kBus, b] = ⟨nm, pre ++ [b], [], [], [], []⟩ := by rw [stepN, if_neg (by decide)]
    have ih := steps_buses nm r (pre ++ [b]) (fun x hx => h1 x (by simp [hx])) (by simpa using h2) (by simpa using h3)
    refine ⟨rfl, by decide, hstep, ?_⟩
    rw [hnext]
    simpa using ih
theorem two_ok {N : NetM} (h : N.buses.Nodup) {i j : Int} (h0 : 0 ≤ i) (h1 : i < N.buses.length) (h2 : 0 ≤ j) (h3 : j < N.buses.length) (hne : i ≠ j) : twoE N.buses (busAt N i) (busAt N j) = 0 := by
  unfold twoE
  rw [(busAt_place h h0 h1).1, (busAt_place h h2 h3).1, if_neg (by omega), if_neg (by omega), if_neg hne]
theorem numE_ok {y : ByteArray} {v lo hi : Int} (h : numL (bytesOf y) = v) (h0 : 0 ≤ v) (h1 : lo ≤ v) (h2 : v ≤ hi) : numE y lo hi = 0 := by
  unfold numE
  rw [h, if_neg (by omega), if_neg (by omega)]
end Go.Proofs.YtpbalclhdhjnoaaGreatDoor
