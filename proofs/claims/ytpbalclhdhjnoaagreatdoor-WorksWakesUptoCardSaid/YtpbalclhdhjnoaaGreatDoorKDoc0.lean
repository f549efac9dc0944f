/- Contracts of the document's small functions: letters, names, places. -/
import Derived.Test.YtpbalclhdhjnoaaGreatDoorKA2
import Derived.Test.YtpbalclhdhjnoaaGreatDoorKPz
import Derived.Maps.AppendAt
namespace Go.Proofs.YtpbalclhdhjnoaaGreatDoor.Doc
open Go.RowKit

set_option maxHeartbeats 400000 in
theorem Letter_any (r : Int) (f : Bool) (w : World) :
    Calls Tryz.prog 33 #[.int .i32 r, .bool f] w fun e w' => e = .returned (.bool (letterB r || (digitB r && !f))) ∧ w' = w := by
  go_enter Tryz.func33, Tryz.ntmps33
  go_wp2
  all_goals
    go_ret
    exact ⟨ret_bool (by rw [Bool.eq_iff_iff]; simp_all [letterB, digitB] <;> omega), rfl⟩
theorem below_app {B B' : Nat} {w wr w1 : World} {o : Obj} {e sz n : Nat} {v : Value} {xs : List Value} (hB : Below B w wr) (hown : wr.ownsRow B' e sz v n xs) (hle : B ≤ B') (hb : B ≤ wr.heap.size)
    (hg : (wr.alloc o).grownBy w1 v.ownBlock) : Below B w w1 :=
  Below.grown (hB.alloc hb o) hg (by simp; omega) (fun k e => by have := (hown.lt k e).1; omega)
theorem own_snoc {α : Type} {w : World} {B e : Nat} {v : Value} {f : α → Value} {out : List α} {x : α} (h : w.ownsRow B e 1 v (out.length + 1) (out.map f ++ [f x])) : w.ownsRow B e 1 v (out ++ [x]).length ((out ++ [x]).map f) := by
  rw [← map_snoc]; simpa using h
theorem ret_int {k : IntKind} {a b : Int} (h : a = b) : Ending.returned (.int k a) = .returned (.int k b) := by rw [h]
theorem RowAt.below {w w' : World} {B n sz : Nat} {v : Value} {xs : List Value} (h : RowAt w v n sz xs) (hB : Below B w w') (hb : w.heap.size ≤ B) : RowAt w' v n sz xs := by
  obtain ⟨h1, a, cap, rfl, hc⟩ := h
  refine ⟨h1, a, cap, rfl, fun j u hj => ?_⟩
  obtain ⟨b, off, rfl, hcell⟩ := hc j u hj
  exact ⟨b, off, rfl, (hB.cell (p := ⟨b, off + j, none⟩) (Nat.lt_of_lt_of_le (World.block_lt_of_cell? w _ hcell) hb)).trans hcell⟩
abbrev TextsAt (w : World) (v : Value) (xs : List ByteArray) : Prop := RowAt w v xs.length 1 (xs.map Value.string)
theorem str_beq (a b : ByteArray) : (a.toList == b.toList) = decide (a = b) := by
  rw [lit_beq]; congr 1; rw [ByteArray.toList_eq]
theorem str_yes {a b : ByteArray} (h : a = b) : (a.toList == b.toList) = true := by rw [str_beq]; simpa using h
theorem str_no {a b : ByteArray} (h : ¬ a = b) : (a.toList == b.toList) = false := by rw [str_beq]; simpa using h
set_option maxRecDepth 100000 in
set_option maxHeartbeats 800000 in
theorem placeOf_any (v : Value) (xs : List ByteArray) (s : ByteArray) (w : World) (hx : TextsAt w v xs) (hn : xs.length ≤ 1000) :
    Calls Tryz.prog 28 #[v, .string s] w fun e w' => e = .returned (.int .i64 (placeL xs s)) ∧ w' = w := by
  obtain ⟨-, a, cap, rfl, hc⟩ := hx
  go_enter Tryz.func28, Tryz.ntmps28
  go_wp2
  go_loop [5] (fun i => ∃ (k : Nat), k ≤ xs.length ∧ i = .int .i64 k ∧ Hid (∀ j (h : j < xs.length), j < k → ¬ xs[j] = s)) (fun i => xs.length - (intOf i).toNat)
  case atStart => exact ⟨0, by omega, rfl, fun j h a => by omega⟩
  case round =>
    obtain ⟨k, hk, rfl, HN⟩ := hrel
    by_cases hlt : k < xs.length
    · obtain ⟨b, off, rfl, hck⟩ := hc k (.string xs[k]) (by simp [hlt])
      by_cases he : xs[k] = s
      · have HP : Hid (placeL xs s = k) := placeL_yes hlt HN.out he
        have hb := str_yes he
        clear he hc
        go_wp2
        go_ret
        exact ⟨ret_int HP.out.symm, rfl⟩
      · have HP : Hid (∀ j (h : j < xs.length), j < k + 1 → ¬ xs[j] = s) := fun j h a => by
          by_cases e : j = k
          · subst e; exact he
          · exact HN.out j h (by omega)
        have hb := str_no he
        clear he hc
        go_wp2
        go_round
        case rel => exact ⟨k + 1, by omega, by go_num, HP⟩
        case measure => simp [intOf]; omega
    · have HP : Hid (placeL xs s = -1) := placeL_no fun j h => HN.out j h (by omega)
      clear hc
      go_wp2
      go_ret
      exact ⟨ret_int HP.out.symm, rfl⟩
set_option maxRecDepth 100000 in
set_option maxHeartbeats 2000000 in
theorem NameOk_any (s : ByteArray) (w : World) (hs : s.size ≤ 100000000) :
    Calls Tryz.prog 26 #[.string s] w fun e w' => e = .returned (.bool (nameL (bytesOf s))) ∧ ∃ q, w' = w.drewN q := by
  go_enter Tryz.func26, Tryz.ntmps26
  go_wp2
  go_loopw [3, 4] (fun n i wr => ∃ (k m : Nat), k ≤ s.size ∧ i = .int .i64 k ∧ n = .int .i64 m ∧ m ≤ k ∧ Hid (NamesAt s k m) ∧ ∃ q, wr = w.drewN q) (fun _ i _ => s.size - (intOf i).toNat)
  case atStart => exact ⟨0, 0, by omega, rfl, rfl, by omega, rfl, 0, rfl⟩
  case round =>
    obtain ⟨k, m, hk, rfl, rfl, hm, HN, q, rfl⟩ := hrel
    by_cases hlt : k < s.size
    · by_cases ha : (s[k].toNat : Int) < 128
      · cases ho : okR s[k].toNat m with
        | true =>
          have HP : Hid (NamesAt s (k + 1) (m + 1)) := HN.out.one hlt ha ho
          have ho' : (letterB s[k].toNat || (digitB s[k].toNat && !((m : Int) == 0))) = true := ho
          clear ho
          go_wp2_with (go_at_call 33; refine (Letter_any _ _ _).mono ?_; rintro e w' ⟨rfl, rfl⟩)
          go_roundw
          case rel => exact ⟨k + 1, m + 1, by omega, by go_num, by go_num, by omega, HP, q, rfl⟩
          case measure => simp [intOf]; omega
        | false =>
          have HP : Hid (nameL (bytesOf s) = false) := HN.out.oneNo hlt ha ho
          have ho' : (letterB s[k].toNat || (digitB s[k].toNat && !((m : Int) == 0))) = false := ho
          clear ho
          go_wp2_with (go_at_call 33; refine (Letter_any _ _ _).mono ?_; rintro e w' ⟨rfl, rfl⟩)
          go_ret
          exact ⟨ret_bool HP.out.symm, q, rfl⟩
      · by_cases hl : 195 ≤ (s[k].toNat : Int) ∧ (s[k].toNat : Int) ≤ 201
        · have hlb := lead_yes hl.1 hl.2
          obtain ⟨h1, h2⟩ := hl
          by_cases hk1 : k + 1 < s.size
          · by_cases hc : 128 ≤ (s[k + 1].toNat : Int) ∧ (s[k + 1].toNat : Int) ≤ 191
            · have hcb := cont_yes hc.1 hc.2
              obtain ⟨h3, h4⟩ := hc
              cases ho : okR (runeOf s[k] s[k + 1]) m with
              | true =>
                have HP : Hid (NamesAt s (k + 2) (m + 1)) := HN.out.two hlt hk1 ha hlb hcb ho
                have ho' : (letterB ((s[k].toNat : Int) % 32 * 64 + (s[k + 1].toNat : Int) % 64) || (digitB ((s[k].toNat : Int) % 32 * 64 + (s[k + 1].toNat : Int) % 64) && !((m : Int) == 0))) = true := ho
                clear ho hlb hcb HN
                go_wp2_with fail
                go_region
                go_wp2_with (go_at_call 33; refine (Letter_any _ _ _).mono ?_; rintro e w' ⟨rfl, rfl⟩)
                go_roundw
                case rel => exact ⟨k + 2, m + 1, by omega, by go_num, by go_num, by omega, HP, q + 1, rfl⟩
                case measure => simp [intOf]; omega
              | false =>
                have HP : Hid (nameL (bytesOf s) = false) := HN.out.twoNo hlt hk1 ha hlb hcb ho
                have ho' : (letterB ((s[k].toNat : Int) % 32 * 64 + (s[k + 1].toNat : Int) % 64) || (digitB ((s[k].toNat : Int) % 32 * 64 + (s[k + 1].toNat : Int) % 64) && !((m : Int) == 0))) = false := ho
                clear ho hlb hcb HN
                go_wp2_with fail
                go_region
                go_wp2_with (go_at_call 33; refine (Letter_any _ _ _).mono ?_; rintro e w' ⟨rfl, rfl⟩)
                go_ret
                exact ⟨ret_bool HP.out.symm, q + 1, rfl⟩
            · have HP : Hid (nameL (bytesOf s) = false) := HN.out.contNo hlt hk1 ha (cont_no hc)
              clear hlb HN
              by_cases h3 : (s[k + 1].toNat : Int) < 128
              · clear hc
                go_wp2
                go_ret
                exact ⟨ret_bool HP.out.symm, q, rfl⟩
              have h4 : 191 < (s[k + 1].toNat : Int) := by omega
              clear hc
              go_wp2
              go_ret
              exact ⟨ret_bool HP.out.symm, q, rfl⟩
          · have HP : Hid (nameL (bytesOf s) = false) := HN.out.half hlt ha hk1
            clear hlb HN
            go_wp2
            go_ret
            exact ⟨ret_bool HP.out.symm, q, rfl⟩
        · have HP : Hid (nameL (bytesOf s) = false) := HN.out.leadNo hlt ha (lead_no hl)
          clear HN
          by_cases h1 : (s[k].toNat : Int) < 195
          · clear hl
            go_wp2
            go_ret
            exact ⟨ret_bool HP.out.symm, q, rfl⟩
          have h2 : 201 < (s[k].toNat : Int) := by omega
          clear hl
          go_wp2
          go_ret
          exact ⟨ret_bool HP.out.symm, q, rfl⟩
    · have HP : Hid (nameL (bytesOf s) = (decide (0 < (m : Int)) && decide ((m : Int) ≤ 16))) := HN.out.fin hlt
      clear HN
      by_cases h1 : 0 < (m : Int)
      · rw [decide_eq_true h1, Bool.true_and] at HP
        go_wp2
        all_goals
          go_ret
          exact ⟨ret_bool (by rw [HP.out]), q, rfl⟩
      · rw [decide_eq_false h1, Bool.false_and] at HP
        go_wp2
        all_goals
          go_ret
          exact ⟨ret_bool (by rw [HP.out]), q, rfl⟩
theorem flat_get {α : Type} (f : α → List Value) (sz : Nat) (hf : ∀ x, (f x).length = sz) : ∀ (xs : List α) (k j : Nat) (hk : k < xs.length), j < sz → (xs.flatMap f)[k * sz + j]? = (f xs[k])[j]?
  | x :: r, 0, j, _, hj => by
    rw [List.flatMap_cons, Nat.zero_mul, Nat.zero_add, List.getElem?_append_left (by rw [hf]; exact hj)]; rfl
  | x :: r, k + 1, j, hk, hj => by
    have h := flat_get f sz hf r k j (by simpa using hk) hj
    rw [List.flatMap_cons, List.getElem?_append_right (by rw [hf, Nat.succ_mul]; omega), hf]
    rw [show (k + 1) * sz + j - sz = k * sz + j by rw [Nat.succ_mul]; omega, h]
    simp
theorem flat_len {α : Type} (f : α → List Value) (sz : Nat) (hf : ∀ x, (f x).length = sz) (xs : List α) : (xs.flatMap f).length = xs.length * sz := by
  induction xs with
  | nil => simp
  | cons x r ih => rw [List.flatMap_cons, List.length_append, hf, ih, List.length_cons, Nat.succ_mul]; omega
/-- A network's value, its lists readable. -/
def NetAt (w : World) (v : Value) (n : NetM) : Prop :=
  ∃ b l g d t, v = .agg #[.string n.name, b, l, g, d, t] ∧ TextsAt w b n.buses ∧ RowAt w l n.lines.length 5 (n.lines.flatMap LineM.cells) ∧ RowAt w g n.gens.length 5 (n.gens.flatMap GenM.cells) ∧
    RowAt w d n.loads.length 3 (n.loads.flatMap LoadM.cells) ∧ RowAt w t n.ties.length 4 (n.ties.flatMap TieM.cells)
variable {P : Program}
theorem add_off (b off j : Nat) : (⟨b, off, none⟩ : Addr).add j = ⟨b, off + j, none⟩ := by
  by_cases h0 : j = 0
  · subst h0; simp [Addr.add]
  · simp [Addr.add, h0]
theorem run_append_nils (w : World) (t ty e : TypeId) (i : TypeInfo) (ht : P.underlying t = some (.slice e)) (hi : P.info? e = some i) (c : Nat) :
    (Builtin.append_ #[t, t] ty #[.slice none 0 0, .slice none 0 c]).run P w = .ok (.slice none 0 0) w := by
  have hl : (Builtin.lenOf (.slice none 0 c)).run P w = .ok 0 w := rfl
  simp [Builtin.append_, run_underlying ht, sizeOf, typeInfo, hi, hl, Builtin.firstCells]
theorem wpList_append_all (w : World) {ops : Array Oper} {rest : List Oper} {o : Oper} {a : Act} {Q : Exit → Act → World → Prop} (hgd : o.guard = none) (s x : Operand) (t : TypeId)
    (ho : o.op = .call { callee := .builtin .append, args := #[s, x], argTypes := #[t, t] })
    (base : Nat) (e : TypeId) (i : TypeInfo) (z : Value) (bytes : Nat) (ht : P.underlying t = some (.slice e)) (hi : P.info? e = some i) (hz : i.zero = some z)
    (hsize : i.size = 1) (hby : i.bytes = bytes) (hzs : z.cells.size = 1)
    (hs : a.eval s = .slice none 0 0) (ao : Option Addr) (m c : Nat) (news : List Value) (hx : a.eval x = .slice ao m c) (hl : news.length = m * 1)
    (hnews : ∀ j u, news[j]? = some u → ∃ b off, ao = some ⟨b, off, none⟩ ∧ w.cell? ⟨b, off + j, none⟩ = some u) (h1 : ∀ u ∈ news, u.oneCell' = true)
    (h63 : m ≤ maxLen) (hbytes : m * bytes ≤ 140737488355328) (hbase : base ≤ w.heap.size)
    (h : ∀ v' w', w'.ownsRow base e 1 v' m news → w.grownBy w' none → wpList P ops Q rest (a.put o.dst v') w') : wpList P ops Q (o :: rest) a w := by
  cases ao with
  | some ad =>
    refine wpList_append_own w hgd s x t ho base e i z 1 bytes ht hi hz hsize hby hzs (by decide) _ 0 [] hs (World.ownsRow_nil _ _ _ _) ad m c news hx hl (fun j u hj => ?_) h1 (by rw [Nat.zero_add]; exact h63) (by rw [Nat.zero_add]; exact hbytes) hbase ?_
    · obtain ⟨b, off, e1, hc⟩ := hnews j u hj
      cases e1
      rw [add_off]; exact hc
    · intro v' w' ho' hg' _
      rw [Nat.zero_add, List.nil_append] at ho'
      exact h v' w' ho' hg'
  | none =>
    have hm : news = [] := by
      cases news with
      | nil => rfl
      | cons u r => obtain ⟨b, off, e1, _⟩ := hnews 0 u rfl; cases e1
    subst hm
    have hm0 : m = 0 := by simpa using hl.symm
    subst hm0
    refine wpList_plain hgd fun K hK => ?_
    unfold Oper.wp execOp
    simp only [ho, resolve, invoke, builtin, Sem.run_bind, Sem.run_pure, Result.andThen_ok, List.map_toArray, List.map_cons, List.map_nil, hs, hx, run_append_nils w t o.type e i ht hi c]
    exact hK _ _ (h _ w (World.ownsRow_nil _ _ _ _) ⟨rfl, rfl, rfl, Nat.le_refl _, fun _ _ _ => rfl⟩)
theorem box_cells (w : World) (c0 c1 c2 c3 c4 c5 : Value) (t : TypeId) :
    (w.alloc (.cells #[c0, c1, c2, c3, c4, c5] t)).cell? ⟨w.heap.size, 0, none⟩ = some c0 ∧ (w.alloc (.cells #[c0, c1, c2, c3, c4, c5] t)).cell? ⟨w.heap.size, 1, none⟩ = some c1 ∧
    (w.alloc (.cells #[c0, c1, c2, c3, c4, c5] t)).cell? ⟨w.heap.size, 2, none⟩ = some c2 ∧ (w.alloc (.cells #[c0, c1, c2, c3, c4, c5] t)).cell? ⟨w.heap.size, 3, none⟩ = some c3 ∧
    (w.alloc (.cells #[c0, c1, c2, c3, c4, c5] t)).cell? ⟨w.heap.size, 4, none⟩ = some c4 ∧ (w.alloc (.cells #[c0, c1, c2, c3, c4, c5] t)).cell? ⟨w.heap.size, 5, none⟩ = some c5 := by
  simp
theorem texts_one (xs : List ByteArray) : ∀ u ∈ xs.map Value.string, u.oneCell' = true := by
  intro u hu; obtain ⟨x, _, rfl⟩ := List.mem_map.1 hu; rfl
theorem elem_at {α : Type} {w wr : World} {f : α → List Value} {sz : Nat} {a : Option Addr} {xs : List α} (hf : ∀ x, (f x).length = sz)
    (h : ∀ j u, (xs.flatMap f)[j]? = some u → ∃ b off, a = some ⟨b, off, none⟩ ∧ w.cell? ⟨b, off + j, none⟩ = some u) (hB : Below w.heap.size w wr) (k : Nat) (hk : k < xs.length) (x0 : Value) (h0 : (f xs[k])[0]? = some x0) :
    ∃ b off, a = some ⟨b, off, none⟩ ∧ wr.cell? ⟨b, off + k * sz, none⟩ = some x0 := by
  have hsz : 0 < sz := by rw [← hf xs[k]]; exact (List.getElem?_eq_some_iff.1 h0).1
  have e := flat_get f sz hf xs k 0 hk hsz
  rw [Nat.add_zero, h0] at e
  obtain ⟨b, off, rfl, hc⟩ := h _ _ e
  exact ⟨b, off, rfl, (hB.cell (p := ⟨b, off + k * sz, none⟩) (World.block_lt_of_cell? w _ hc)).trans hc⟩
theorem take_map_snoc {α : Type} (f : α → ByteArray) (xs : List α) (k : Nat) (hk : k < xs.length) (pre : List ByteArray) : pre ++ (xs.take k).map f ++ [f xs[k]] = pre ++ (xs.take (k + 1)).map f := by
  rw [List.take_succ_eq_append_getElem hk, List.map_append, List.append_assoc]; rfl
theorem ownsRow_down {w : World} {B B' e sz n : Nat} {v : Value} {xs : List Value} (h : w.ownsRow (B + 1) e sz v n xs) (hB : B' = B := by rfl) : w.ownsRow B' e sz v n xs := by
  subst hB
  refine ⟨h.1, ?_⟩
  rcases h.2 with h2 | ⟨g, cap, cur, h3, h4, h5⟩
  · exact .inl h2
  · exact .inr ⟨g, cap, cur, h3, by omega, h5⟩
set_option maxRecDepth 100000 in
set_option maxHeartbeats 2000000 in
theorem namesOf_any (v : Value) (n : NetM) (w : World) (hn : NetAt w v n) (hf : Fits n) :
    Calls Tryz.prog 27 #[v] w fun e w' => ∃ v', e = .returned v' ∧ w'.ownsRow w.heap.size 9 1 v' (namesM n).length ((namesM n).map Value.string) ∧ Below w.heap.size w w' := by
  obtain ⟨b, l, g, d, t, rfl, ⟨lb, ab, cb, rfl, hb⟩, ⟨ll, al, cl, rfl, hl⟩, ⟨lg, ag, cg, rfl, hg⟩, ⟨ld, ad, cd, rfl, hd⟩, ⟨lt, at', ct, rfl, ht⟩⟩ := hn
  obtain ⟨f1, f2, f3, f4, f5⟩ := hf
  obtain ⟨i0, hi, hz0, hz1, hz2⟩ := info_parts Tryz.info9
  obtain ⟨W0, hW0⟩ : ∃ W0, w.alloc (.cells #[.string n.name, .slice ab n.buses.length cb, .slice al n.lines.length cl, .slice ag n.gens.length cg, .slice ad n.loads.length cd, .slice at' n.ties.length ct] 28) = W0 := ⟨_, rfl⟩
  have hc0 := box_cells w (.string n.name) (.slice ab n.buses.length cb) (.slice al n.lines.length cl) (.slice ag n.gens.length cg) (.slice ad n.loads.length cd) (.slice at' n.ties.length ct) 28
  rw [hW0] at hc0
  have hB0 : Below w.heap.size w W0 := by rw [← hW0]; exact (Below.refl _ _).alloc (Nat.le_refl _) _
  have hs0 : W0.heap.size = w.heap.size + 1 := by rw [← hW0]; simp
  have hbW : ∀ j u, (n.buses.map Value.string)[j]? = some u → ∃ b off, ab = some ⟨b, off, none⟩ ∧ W0.cell? ⟨b, off + j, none⟩ = some u := fun j u hj => by
    obtain ⟨b, off, e1, hc⟩ := hb j u hj
    exact ⟨b, off, e1, (hB0.cell (p := ⟨b, off + j, none⟩) (World.block_lt_of_cell? w _ hc)).trans hc⟩
  have HW : Hid (_ = W0) := hW0
  clear hW0 hb lb ll lg ld lt
  go_enter Tryz.func27, Tryz.ntmps27
  go_wp2_with (at_builtin; go_must (rw [HW.out]; refine wpList_append_all _ rfl _ _ 22 rfl (w.heap.size + 1) 9 i0 (.string ⟨#[]⟩) 16 Tryz.underlying22 hi hz0 hz1 hz2 rfl rfl ab n.buses.length cb (n.buses.map Value.string) rfl (by simp) hbW (texts_one _) (by unfold maxLen; omega) (by omega) (by omega) ?_; intro v1 w1 hown1 hg1))
  have hB1 : Below (w.heap.size + 1) W0 w1 := (Below.refl _ _).grown hg1 (by omega) (fun k e => by cases e)
  have hB0' : Hid (Below w.heap.size w W0) := hB0
  clear hg1 hbW hB0 HW
  go_loopw [3, 4] (fun v i wr => ∃ (k : Nat), k ≤ n.lines.length ∧ i = .int .i64 k ∧ wr.ownsRow (w.heap.size + 1) 9 1 v (n.buses ++ (n.lines.take k).map LineM.name).length ((n.buses ++ (n.lines.take k).map LineM.name).map Value.string) ∧ Below (w.heap.size + 1) W0 wr) (fun _ i _ => n.lines.length - (intOf i).toNat)
  case atStart => exact ⟨0, by omega, rfl, by simpa using hown1, hB1⟩
  case round =>
    clear hown1 hB1
    obtain ⟨k, hk, rfl, hown, hB⟩ := hrel
    have hc2 := (hB.cell (p := ⟨w.heap.size, 2, none⟩) (by simp)).trans hc0.2.2.1
    have HC := hide' hc0
    clear hc0
    by_cases hlt : k < n.lines.length
    · obtain ⟨b, off, rfl, hck⟩ := elem_at (f := LineM.cells) (sz := 5) (fun _ => rfl) hl (hB0'.out.trans (hB.mono (by omega))) k hlt (.string n.lines[k].name) rfl
      clear hl hg hd ht
      go_wp2_with (at_builtin; refine wpList_append_own _ rfl _ _ 22 rfl (w.heap.size + 1) 9 i0 (.string ⟨#[]⟩) 1 16 Tryz.underlying22 hi hz0 hz1 hz2 rfl (by decide) _ _ _ rfl (hown.alloc _) ⟨wr.heap.size, 0, none⟩ 1 1 [.string n.lines[k].name] rfl rfl (cell_one_new _ _ _) (one_cell rfl) (by unfold maxLen; simp; omega) (by simp; omega) (by have := hB.size; simp; omega) ?_; intro v' w2 hown' hgrow _)
      go_roundw
      case rel => exact ⟨k + 1, by omega, by go_num, by have := own_snoc hown'; rwa [take_map_snoc] at this, below_app hB hown (Nat.le_refl _) (by have := hB.size; omega) hgrow⟩
      case measure => simp [intOf]; omega
    · have hown1 := hown
      rw [List.take_of_length_le (by omega)] at hown1
      have hB1 := hB
      clear hB hown
      go_wp2_with fail
      have hc0 := HC.out
      clear HC hlt hk hc2
      go_loopw [3, 5] (fun v i wr => ∃ (k : Nat), k ≤ n.gens.length ∧ i = .int .i64 k ∧ wr.ownsRow (w.heap.size + 1) 9 1 v ((n.buses ++ n.lines.map LineM.name) ++ (n.gens.take k).map GenM.name).length (((n.buses ++ n.lines.map LineM.name) ++ (n.gens.take k).map GenM.name).map Value.string) ∧ Below (w.heap.size + 1) W0 wr) (fun _ i _ => n.gens.length - (intOf i).toNat)
      case atStart => exact ⟨0, by omega, rfl, by simpa using hown1, hB1⟩
      case round =>
        clear hown1 hB1
        obtain ⟨k, hk, rfl, hown, hB⟩ := hrel
        have hc2 := (hB.cell (p := ⟨w.heap.size, 3, none⟩) (by simp)).trans hc0.2.2.2.1
        have HC := hide' hc0
        clear hc0
        by_cases hlt : k < n.gens.length
        · obtain ⟨b, off, rfl, hck⟩ := elem_at (f := GenM.cells) (sz := 5) (fun _ => rfl) hg (hB0'.out.trans (hB.mono (by omega))) k hlt (.string n.gens[k].name) rfl
          clear hl hg hd ht
          go_wp2_with (at_builtin; refine wpList_append_own _ rfl _ _ 22 rfl (w.heap.size + 1) 9 i0 (.string ⟨#[]⟩) 1 16 Tryz.underlying22 hi hz0 hz1 hz2 rfl (by decide) _ _ _ rfl (hown.alloc _) ⟨wr.heap.size, 0, none⟩ 1 1 [.string n.gens[k].name] rfl rfl (cell_one_new _ _ _) (one_cell rfl) (by unfold maxLen; simp; omega) (by simp; omega) (by have := hB.size; simp; omega) ?_; intro v' w2 hown' hgrow _)
          go_roundw
          case rel => exact ⟨k + 1, by omega, by go_num, by have := own_snoc hown'; rwa [take_map_snoc] at this, below_app hB hown (Nat.le_refl _) (by have := hB.size; omega) hgrow⟩
          case measure => simp [intOf]; omega
        · have hown1 := hown
          rw [List.take_of_length_le (by omega)] at hown1
          have hB1 := hB
          clear hB hown
          go_wp2_with fail
          have hc0 := HC.out
          clear HC hlt hk hc2
          go_loopw [3, 6] (fun v i wr => ∃ (k : Nat), k ≤ n.loads.length ∧ i = .int .i64 k ∧ wr.ownsRow (w.heap.size + 1) 9 1 v (((n.buses ++ n.lines.map LineM.name) ++ n.gens.map GenM.name) ++ (n.loads.take k).map LoadM.name).length ((((n.buses ++ n.lines.map LineM.name) ++ n.gens.map GenM.name) ++ (n.loads.take k).map LoadM.name).map Value.string) ∧ Below (w.heap.size + 1) W0 wr) (fun _ i _ => n.loads.length - (intOf i).toNat)
          case atStart => exact ⟨0, by omega, rfl, by simpa using hown1, hB1⟩
          case round =>
            clear hown1 hB1
            obtain ⟨k, hk, rfl, hown, hB⟩ := hrel
            have hc2 := (hB.cell (p := ⟨w.heap.size, 4, none⟩) (by simp)).trans hc0.2.2.2.2.1
            have HC := hide' hc0
            clear hc0
            by_cases hlt : k < n.loads.length
            · obtain ⟨b, off, rfl, hck⟩ := elem_at (f := LoadM.cells) (sz := 3) (fun _ => rfl) hd (hB0'.out.trans (hB.mono (by omega))) k hlt (.string n.loads[k].name) rfl
              clear hl hg hd ht
              go_wp2_with (at_builtin; refine wpList_append_own _ rfl _ _ 22 rfl (w.heap.size + 1) 9 i0 (.string ⟨#[]⟩) 1 16 Tryz.underlying22 hi hz0 hz1 hz2 rfl (by decide) _ _ _ rfl (hown.alloc _) ⟨wr.heap.size, 0, none⟩ 1 1 [.string n.loads[k].name] rfl rfl (cell_one_new _ _ _) (one_cell rfl) (by unfold maxLen; simp; omega) (by simp; omega) (by have := hB.size; simp; omega) ?_; intro v' w2 hown' hgrow _)
              go_roundw
              case rel => exact ⟨k + 1, by omega, by go_num, by have := own_snoc hown'; rwa [take_map_snoc] at this, below_app hB hown (Nat.le_refl _) (by have := hB.size; omega) hgrow⟩
              case measure => simp [intOf]; omega
            · have hown1 := hown
              rw [List.take_of_length_le (by omega)] at hown1
              have hB1 := hB
              clear hB hown
              go_wp2_with fail
              have hc0 := HC.out
              clear HC hlt hk hc2
              go_loopw [3, 7] (fun v i wr => ∃ (k : Nat), k ≤ n.ties.length ∧ i = .int .i64 k ∧ wr.ownsRow (w.heap.size + 1) 9 1 v ((((n.buses ++ n.lines.map LineM.name) ++ n.gens.map GenM.name) ++ n.loads.map LoadM.name) ++ (n.ties.take k).map TieM.name).length (((((n.buses ++ n.lines.map LineM.name) ++ n.gens.map GenM.name) ++ n.loads.map LoadM.name) ++ (n.ties.take k).map TieM.name).map Value.string) ∧ Below (w.heap.size + 1) W0 wr) (fun _ i _ => n.ties.length - (intOf i).toNat)
              case atStart => exact ⟨0, by omega, rfl, by simpa using hown1, hB1⟩
              case round =>
                clear hown1 hB1
                obtain ⟨k, hk, rfl, hown, hB⟩ := hrel
                have hc2 := (hB.cell (p := ⟨w.heap.size, 5, none⟩) (by simp)).trans hc0.2.2.2.2.2
                have HC := hide' hc0
                clear hc0
                by_cases hlt : k < n.ties.length
                · obtain ⟨b, off, rfl, hck⟩ := elem_at (f := TieM.cells) (sz := 4) (fun _ => rfl) ht (hB0'.out.trans (hB.mono (by omega))) k hlt (.string n.ties[k].name) rfl
                  clear hl hg hd ht
                  go_wp2_with (at_builtin; refine wpList_append_own _ rfl _ _ 22 rfl (w.heap.size + 1) 9 i0 (.string ⟨#[]⟩) 1 16 Tryz.underlying22 hi hz0 hz1 hz2 rfl (by decide) _ _ _ rfl (hown.alloc _) ⟨wr.heap.size, 0, none⟩ 1 1 [.string n.ties[k].name] rfl rfl (cell_one_new _ _ _) (one_cell rfl) (by unfold maxLen; simp; omega) (by simp; omega) (by have := hB.size; simp; omega) ?_; intro v' w2 hown' hgrow _)
                  go_roundw
                  case rel => exact ⟨k + 1, by omega, by go_num, by have := own_snoc hown'; rwa [take_map_snoc] at this, below_app hB hown (Nat.le_refl _) (by have := hB.size; omega) hgrow⟩
                  case measure => simp [intOf]; omega
                · have hown1 := hown
                  rw [List.take_of_length_le (by omega)] at hown1
                  have hB1 := hB
                  clear hB hown
                  go_wp2_with fail
                  go_ret
                  exact ⟨_, rfl, ownsRow_down hown1, hB0'.out.trans (hB1.mono (by omega))⟩
end Go.Proofs.YtpbalclhdhjnoaaGreatDoor.Doc
