/- An hour, as the document has it. -/
import Derived.Test.YtnhddmcdmcpkeajX5
namespace Go.Proofs.Ytnhddmcdmcpkeaj
open Go.RowKit Go.Shelf

theorem results_tmp4 {fn : Func} {t u v x : Tmp} (h : fn.results = #[.tmp t, .tmp u, .tmp v, .tmp x]) (tmps : Array Value) (P : Program) (w : World) : (results fn tmps).run P w = .ok (.tuple #[tmps.getD t undef, tmps.getD u undef, tmps.getD v undef, tmps.getD x undef]) w := by
  simp [results, h]
theorem list_at0X (a b : Int) {L : Nat} (h : 0 < L) : (listOf a b L).getD 0 0 = a := by
  unfold listOf
  cases L with
  | zero => omega
  | succ n => rfl
theorem list_at1X (a b : Int) {L : Nat} (h : 1 < L) : (listOf a b L).getD 1 0 = b := by
  unfold listOf
  match L, h with
  | n + 2, _ => rfl
theorem list_lenX (a b : Int) {L : Nat} (h : L ≤ 2) : (listOf a b L).length = L := by unfold listOf; simp; omega
theorem made_int (n : Nat) : (madeCells (Value.int .i64 0).cells (n * 1)).toList = ints (List.replicate n 0) := by
  apply List.ext_getElem
  · simp [madeCells, ints]
  · intro i h1 h2
    simp [madeCells, Value.cells, Nat.mod_one, ints]
theorem shut_q {q : Bool} {a b c : Prop} (h : q = true ↔ (¬ a ∧ ¬ b ∧ ¬ c)) : (a → true = !q) ∧ (b → true = !q) ∧ (c → true = !q) ∧ (¬ a → ¬ b → ¬ c → false = !q) := by
  cases q with
  | true => exact ⟨fun x => absurd x (h.1 rfl).1, fun x => absurd x (h.1 rfl).2.1, fun x => absurd x (h.1 rfl).2.2, fun _ _ _ => rfl⟩
  | false => exact ⟨fun _ => rfl, fun _ => rfl, fun _ => rfl, fun x y z => absurd (h.2 ⟨x, y, z⟩) (by decide)⟩
def HourO (ls : List LakeM) (L : Nat) (s : Stnd) (ir rr : List Int) (w : World) (e : Ending) (w' : World) : Prop :=
  ((hourOk ls L s ir rr = false ∧ e = .returned (.tuple #[.slice none 0 0, .slice none 0 0, .slice none 0 0, .bool false])) ∨ (hourOk ls L s ir rr = true ∧ ∃ v1 v2 v3, e = .returned (.tuple #[v1, v2, v3, .bool true]) ∧ w'.ownsRow w.heap.size 3 1 v1 L (ints (listOf (hourS ls L s ir rr).l0 (hourS ls L s ir rr).l1 L)) ∧ w'.ownsRow w.heap.size 3 1 v2 L (ints (listOf (hourS ls L s ir rr).u0 (hourS ls L s ir rr).u1 L)) ∧ w'.ownsRow w.heap.size 3 1 v3 L (ints (listOf (hourV ls L s ir rr).a (hourV ls L s ir rr).b L)))) ∧ Below w.heap.size w w'
def docN (ls : List LakeM) (f : Pair2) (r0 r1 : Int) (k : Nat) : List Int := [levOf (lkD ls 0) f.a r0, levOf (lkD ls 1) f.b r1].take k
def docV (ls : List LakeM) (f : Pair2) (r0 r1 : Int) (k : Nat) : List Int := [spOf (lkD ls 0) f.a r0, spOf (lkD ls 1) f.b r1].take k
def docX (ls : List LakeM) (f : Pair2) (r0 : Int) (L k : Nat) : List Int := if 0 < k ∧ L = 2 then [0, r0 + spOf (lkD ls 0) f.a r0] else List.replicate L 0
def docOk (ls : List LakeM) (f : Pair2) (r0 r1 : Int) (k : Nat) : Prop := (0 < k → withinB r0 0 (freeOf (lkD ls 0) f.a) = true) ∧ (1 < k → withinB r1 0 (freeOf (lkD ls 1) f.b) = true)
theorem ints_own {w : World} {B T n : Nat} {l : List Int} (h : w.heap[T]? = some (.cells (ints l).toArray 3 (0, 0))) (hs : B ≤ T) (hl : l.length = n) (hn : n ≤ 1000) : w.ownsRow B 3 1 (.slice (some ⟨T, 0, none⟩) n n) n (ints l) := by
  subst hl
  exact ⟨by simp [ints], .inr ⟨T, _, _, rfl, hs, h, Nat.le_refl _, by unfold maxLen; omega, by simp [ints], by rw [List.take_of_length_le (by simp [ints])]⟩⟩
theorem doc_len (ls : List LakeM) (f : Pair2) (r0 : Int) (L : Nat) : (docX ls f r0 L L).length = L := by
  unfold docX
  split
  · next h => rw [h.2]; rfl
  · exact List.length_replicate
theorem doc_end {ls : List LakeM} {L : Nat} {s : Stnd} {ir rr : List Int} {f : Pair2} {r0 r1 : Int} (hL : L ≤ 2) (hf : f = full2 L s ir) (h0 : r0 = rr.getD 0 0) (h1 : r1 = rr.getD 1 0) :
    docN ls f r0 r1 L = listOf (hourS ls L s ir rr).l0 (hourS ls L s ir rr).l1 L ∧ docV ls f r0 r1 L = listOf (hourV ls L s ir rr).a (hourV ls L s ir rr).b L ∧ docX ls f r0 L L = listOf (hourS ls L s ir rr).u0 (hourS ls L s ir rr).u1 L ∧ (docN ls f r0 r1 L).length = L ∧ (docV ls f r0 r1 L).length = L := by
  subst hf h0 h1
  have h : L = 0 ∨ L = 1 ∨ L = 2 := by omega
  rcases h with rfl | rfl | rfl <;> exact ⟨rfl, rfl, rfl, rfl, rfl⟩
set_option maxRecDepth 100000 in
set_option maxHeartbeats 4000000 in
theorem waterHour_any (ls : List LakeM) (hok : ∀ k ∈ ls, LakeOk k) (s : Stnd) (ir rr : List Int) (L : Nat) (hl : ls.length = L) (hL : L ≤ 2) (g : Good ls L s) (hin : ∀ i, i < L → 0 ≤ ir.getD i 0 ∧ ir.getD i 0 ≤ 10) (hil : ir.length = L) (hrl : rr.length = L) (al a1 a2 a3 a4 : Option Addr) (cl c1 c2 c3 c4 : Nat) (w : World) (hx : RowAt w (.slice al L cl) ls.length 5 (ls.flatMap LakeM.cells)) (h1 : RowAt w (.slice a1 L c1) L 1 (ints (listOf s.l0 s.l1 L))) (h2 : RowAt w (.slice a2 L c2) L 1 (ints (listOf s.u0 s.u1 L))) (h3 : RowAt w (.slice a3 L c3) L 1 (ints ir)) (h4 : RowAt w (.slice a4 L c4) L 1 (ints rr)) :
    Calls Try.prog 44 #[.slice al L cl, .slice a1 L c1, .slice a2 L c2, .slice a3 L c3, .slice a4 L c4] w (HourO ls L s ir rr w) := by
  obtain ⟨i3, hi3, h30, h31, h32⟩ := info_parts Try.info3'
  obtain ⟨PO, hPO⟩ : ∃ P, P = HourO ls L s ir rr w := ⟨_, rfl⟩
  rw [← hPO]
  have HPO : Hid (∀ e w', HourO ls L s ir rr w e w' → PO e w') := fun e w' h => by rw [hPO]; exact h
  have HX := hide' hx
  have H1 := hide' h1
  have H2 := hide' h2
  have H3 := hide' h3
  have H4 := hide' h4
  have HL := hide' hl
  have HOK := hide' hok
  have HG := hide' g
  have HIN := hide' hin
  have HLE := hide' (And.intro hil hrl)
  clear hPO hx h1 h2 h3 h4 hl hok g hin hil hrl
  obtain ⟨f, hf⟩ : ∃ x, x = full2 L s ir := ⟨_, rfl⟩
  obtain ⟨r0, hr0⟩ : ∃ x, x = rr.getD 0 0 := ⟨_, rfl⟩
  obtain ⟨r1, hr1⟩ : ∃ x, x = rr.getD 1 0 := ⟨_, rfl⟩
  have HFE := hide' hf
  have HRE := hide' (And.intro hr0 hr1)
  clear hf hr0 hr1
  go_enter Try.func44, Try.ntmps44
  go_wp2_with (at_make; refine wpList_make_full _ rfl _ _ 39 rfl w.heap.size 3 i3 (.int .i64 0) 1 Try.underlying39 hi3 h30 h31 .i64 .i64 _ _ L rfl rfl rfl rfl (by rw [h32]; omega) (by unfold maxLen; omega) (Nat.le_refl _) ?_; intro w3 hown3 hgr3; refine Still.go ?_)
  unfold Still
  have HB3 : Hid (Below w.heap.size w w3) := (Below.refl _ w).grown hgr3 (Nat.le_refl _) (fun k e => by cases e)
  have HG3 : Hid (w3.heap[w.heap.size]? = some (.cells (ints (List.replicate L 0)).toArray 3 (0, 0))) := by
    rw [made_int] at hown3
    exact row_cells hown3
  obtain ⟨G, hG⟩ : ∃ x, x = w.heap.size := ⟨_, rfl⟩
  rw [← hG] at HG3
  rw [show (Value.slice (some { block := w.heap.size, off := 0 }) L L) = Value.slice (some { block := G, off := 0 }) L L by rw [hG]]
  have H0 : Hid (HS w w3 (.slice none 0 0) (.slice none 0 0) G [] [] (docX ls f r0 L 0)) := ⟨World.ownsRow_nil _ _ _ _, World.ownsRow_nil _ _ _ _, HG3.out, fun k hk => (by cases hk), fun e => (by cases e), fun e => (by cases e), by omega, HB3.out⟩
  clear hown3 hgr3 hG HB3 HG3
  go_wp2_with fail
  go_loopw [14, 16, 17] (fun nv sv iv wr => ∃ (k : Nat), iv = .int .i64 k ∧ k ≤ L ∧ Hid (docOk ls f r0 r1 k) ∧ Hid (HS w wr nv sv G (docN ls f r0 r1 k) (docV ls f r0 r1 k) (docX ls f r0 L k))) (fun _ _ iv _ => L - (intOf iv).toNat)
  case atStart => exact ⟨0, rfl, Nat.zero_le _, ⟨fun e => absurd e (by decide), fun e => absurd e (by decide)⟩, H0⟩
  case round =>
    obtain ⟨k, rfl, hk, HDO, HW⟩ := hrel
    by_cases hlt : k < L
    · have hf := HFE.out
      obtain ⟨hr0, hr1⟩ := HRE.out
      have hk2 : k = 0 ∨ k = 1 := by omega
      rcases hk2 with rfl | rfl
      · obtain ⟨b1, o1, x1, e1, q1⟩ := ints_cell2 H1.out 0 (by rw [list_lenX _ _ hL]; exact hlt)
        obtain ⟨b2, o2, x2, e2, q2⟩ := ints_cell2 H2.out 0 (by rw [list_lenX _ _ hL]; exact hlt)
        obtain ⟨b3, o3, x3, e3, q3⟩ := ints_cell2 H3.out 0 (by rw [HLE.out.1]; exact hlt)
        obtain ⟨b4, o4, x4, e4, q4⟩ := ints_cell2 H4.out 0 (by rw [HLE.out.2]; exact hlt)
        obtain ⟨lb, lo, eal, _, m0, m1, _, m3, _⟩ := lake_cells HX.out (k := 0) (by rw [HL.out]; exact hlt)
        simp only [Value.slice.injEq] at e1 e2 e3 e4
        obtain ⟨rfl, z1, rfl⟩ := e1
        obtain ⟨rfl, z2, rfl⟩ := e2
        obtain ⟨rfl, z3, rfl⟩ := e3
        obtain ⟨rfl, z4, rfl⟩ := e4
        subst eal
        rw [list_at0X _ _ hlt] at q1 q2
        have hsb := good_bounds HOK.out HL.out HG.out
        have hib := HIN.out 0 hlt
        have ok := lkD_ok HOK.out (i := 0) (by rw [HL.out]; exact hlt)
        have lk1 := ok.l; have lk2 := ok.s; have lk3 := ok.m; have lk4 := ok.x; have lk5 := ok.t
        have hff : f.a = s.l0 + (ir.getD 0 0 + s.u0) := by rw [hf]; exact if_pos hlt
        rw [← hr0] at q4
        obtain ⟨le, hle⟩ : ∃ x, x = (lkD ls 0).least := ⟨_, rfl⟩
        obtain ⟨mo, hmo⟩ : ∃ x, x = (lkD ls 0).most := ⟨_, rfl⟩
        obtain ⟨tu, htu⟩ : ∃ x, x = (lkD ls 0).turb := ⟨_, rfl⟩
        obtain ⟨lv, hlv⟩ : ∃ x, x = s.l0 := ⟨_, rfl⟩
        obtain ⟨uu, huu⟩ : ∃ x, x = s.u0 := ⟨_, rfl⟩
        obtain ⟨ii, hii⟩ : ∃ x, x = ir.getD 0 0 := ⟨_, rfl⟩
        have hsh := @shut_iff (lkD ls 0) f.a r0
        have hld := @lev_doc (lkD ls 0) f.a r0
        rw [← hle] at m0 lk1 lk2 hsh
        rw [← hmo] at m1 lk3 lk4 hld
        rw [← htu] at m3 lk5 hsh
        have hbd : (0 ≤ lv ∧ lv ≤ 20) ∧ (0 ≤ uu ∧ uu ≤ 30) ∧ (0 ≤ ii ∧ ii ≤ 10) := by rw [hlv, huu, hii]; omega
        rw [← hlv] at q1 hff
        rw [← huu] at q2 hff
        rw [← hii] at q3 hff
        obtain ⟨ff, hfq⟩ : ∃ x, x = f.a := ⟨_, rfl⟩
        rw [← hfq] at hff hsh hld
        clear hf hr0 hr1
        have HSH := hide' hsh
        have HFB : Hid (0 ≤ ff ∧ ff ≤ 60) := by show _ ∧ _; omega
        have HLD := hide' hld
        have hmb : 0 ≤ mo ∧ mo ≤ 20 := by omega
        have HFQ := hide' hfq
        clear hfq
        clear z1 z2 z3 z4 hsb hib ok hle hmo htu hlv huu hii hsh hld lk2 lk3
        have Q4 : Hid (w.cell? ⟨b4, o4, none⟩ = some (.int .i64 r0)) := q4
        replace q1 := up_cell HW.out.bel q1
        replace q2 := up_cell HW.out.bel q2
        replace q3 := up_cell HW.out.bel q3
        replace q4 := up_cell HW.out.bel q4
        replace m0 := up_cell HW.out.bel m0
        replace m1 := up_cell HW.out.bel m1
        replace m3 := up_cell HW.out.bel m3
        have hkl : ((0 : Nat) : Int) < (L : Int) := by omega
        simp only [Nat.add_zero] at q1 q2 q3
        simp only [show ((0 : Nat) : Int) = 0 from rfl] at hkl ⊢
        go_upto_region 7 with fail
        have HWD := hide' (fun m => HW.out.more (below_drewN (Below.refl _ wr) m))
        have HCD : Hid (∀ m, (wr.drewN m).cell? ⟨b4, o4 + 0, none⟩ = some (.int .i64 r0) ∧ (wr.drewN m).cell? ⟨lb, lo + 0 * 5, none⟩ = some (.int .i64 le) ∧ (wr.drewN m).cell? ⟨lb, lo + 0 * 5 + 1, none⟩ = some (.int .i64 mo) ∧ (wr.drewN m).cell? ⟨lb, lo + 0 * 5 + 3, none⟩ = some (.int .i64 tu)) := fun m => ⟨q4, m0, m1, m3⟩
        clear q4 m0 m1 m3 HW
        go_cut [18] from 29 to 42 (fun p wc => p = .int .i64 ff ∧ ∃ m, wc = wr.drewN m)
        case first =>
          go_quiet (fail)
          go_wp2_with fail
          go_meet
          case rel => exact ⟨by rw [hff]; congr 1; omega, _, rfl⟩
        case rest =>
          obtain ⟨rfl, m, hwc⟩ := hcut
          obtain ⟨q4, m0, m1, m3⟩ := HCD.out m
          have HW := hide' (HWD.out m)
          rw [← hwc] at q4 m0 m1 m3 HW
          clear HCD HWD hwc q1 q2 q3 hff
          simp only [Nat.add_zero, Nat.zero_mul] at q4 m0 m1 m3
          go_upto_region 8 with fail
          have HWD := hide' (fun m => HW.out.more (below_drewN (Below.refl _ wc) m))
          have HCD : Hid (∀ m, (wc.drewN m).cell? ⟨b4, o4, none⟩ = some (.int .i64 r0) ∧ (wc.drewN m).cell? ⟨lb, lo + 1, none⟩ = some (.int .i64 mo)) := fun m => ⟨q4, m1⟩
          have hffb : 0 ≤ ff ∧ ff ≤ 60 := HFB.out
          clear HW m1
          go_cut [73] from 43 to 72 (fun p wd => ∃ q : Bool, p = .bool q ∧ Hid (q = !(withinB r0 0 (freeOf (lkD ls 0) ff))) ∧ ∃ m, wd = wc.drewN m)
          case first =>
            clear HWD HCD
            have HQ := hide' (shut_q HSH.out)
            by_cases n1 : r0 < 0
            · have HQQ := hide' (HQ.out.1 n1)
              go_quiet (fail)
              go_wp2_with fail
              go_meet
              case rel => exact ⟨true, rfl, HQQ, _, rfl⟩
            · by_cases n2 : tu < r0
              · have HQQ := hide' (HQ.out.2.1 n2)
                go_quiet (fail)
                go_wp2_with fail
                go_meet
                case rel => exact ⟨true, rfl, HQQ, _, rfl⟩
              · by_cases n3 : ff - r0 < le
                · have HQQ := hide' (HQ.out.2.2.1 n3)
                  go_quiet (fail)
                  go_wp2_with fail
                  go_meet
                  case rel => exact ⟨true, rfl, HQQ, _, rfl⟩
                · have HQQ := hide' (HQ.out.2.2.2 n1 n2 n3)
                  go_quiet (fail)
                  go_wp2_with fail
                  go_meet
                  case rel => exact ⟨false, rfl, HQQ, _, rfl⟩
          case rest =>
            obtain ⟨q, rfl, HQ, m2, hwd⟩ := hcut
            have HW := hide' (HWD.out m2)
            obtain ⟨q4', m1⟩ := HCD.out m2
            rw [← hwd] at HW q4' m1
            clear HWD HCD hwd q4 m0 m3
            cases q with
            | true =>
              have HNO : Hid (hourOk ls L s ir rr = false) := by
                have h : withinB r0 0 (freeOf (lkD ls 0) ff) = false := by have := HQ.out; cases e : withinB r0 0 (freeOf (lkD ls 0) ff) with
                  | false => rfl
                  | true => rw [e] at this; cases this
                rw [HFQ.out, HFE.out] at h
                refine ask_no0 ?_ hlt
                have ef : (free2 ls L (full2 L s ir)).a = freeOf (lkD ls 0) (full2 L s ir).a := if_pos hlt
                rw [ef, ← HRE.out.1]
                exact h
              have HFN := hide' (HPO.out (.returned (.tuple #[.slice none 0 0, .slice none 0 0, .slice none 0 0, .bool false])) wc ⟨.inl ⟨HNO.out, rfl⟩, HW.out.bel⟩)
              clear HNO HW HPO q4' m1
              go_wp2_with fail
              refine bodyPost_ret (results_tmp4 rfl _ _ _) rfl ?_
              exact HFN.out
            | false =>
              have HQ1 : Hid (withinB r0 0 (freeOf (lkD ls 0) ff) = true) := by have := HQ.out; cases e : withinB r0 0 (freeOf (lkD ls 0) ff) with
                | false => rw [e] at this; cases this
                | true => rfl
              obtain ⟨n1, n2, n3⟩ := HSH.out.1 HQ1.out
              have HLN : Hid ((docN ls f r0 r1 0).length = 0 ∧ (docV ls f r0 r1 0).length = 0) := ⟨rfl, rfl⟩
              have HDN : Hid (docOk ls f r0 r1 (0 + 1)) := ⟨fun _ => by rw [← HFQ.out]; exact HQ1.out, fun e => absurd e (by decide)⟩
              by_cases hm : mo < ff - r0
              · have HEX : Hid (docN ls f r0 r1 (0 + 1) = docN ls f r0 r1 0 ++ [ff - r0 - (ff - r0 - mo)] ∧ docV ls f r0 r1 (0 + 1) = docV ls f r0 r1 0 ++ [ff - r0 - mo] ∧ spOf (lkD ls 0) f.a r0 = ff - r0 - mo) := by
                  have e1 : levOf (lkD ls 0) f.a r0 = ff - r0 - (ff - r0 - mo) := by rw [← HFQ.out, HLD.out.1, if_pos hm]
                  have e2 : spOf (lkD ls 0) f.a r0 = ff - r0 - mo := by rw [← HFQ.out, HLD.out.2, if_pos hm]
                  refine ⟨?_, ?_, e2⟩
                  · rw [← e1]; rfl
                  · rw [← e2]; rfl
                go_wp2_with (at_builtin; refine wpList_append_own_at _ rfl _ _ 39 rfl w.heap.size 3 i3 (.int .i64 0) 1 8 Try.underlying39 hi3 h30 h31 h32 rfl (by decide) _ _ _ rfl (own_below HW.out.a (below_al _ _) (Nat.le_refl _)) ⟨wc.heap.size, 0, none⟩ 1 1 [.int .i64 (ff - r0 - (ff - r0 - mo))] rfl rfl (cell_one_new _ _ _) (one_cell rfl) (by have := HLN.out.1; unfold maxLen; omega) (by have := HLN.out.1; omega) (Nat.le_trans HW.out.bel.size (below_al _ _).size) ?_; intro v' w8 hown' hgrow _ hat; refine Still.go ?_)
                unfold Still
                have HW8 := hide' (HW.out.growA hown' hgrow hat)
                clear hown' hgrow hat HW q4' m1
                go_wp2_with (at_builtin; refine wpList_append_own_at _ rfl _ _ 39 rfl w.heap.size 3 i3 (.int .i64 0) 1 8 Try.underlying39 hi3 h30 h31 h32 rfl (by decide) _ _ _ rfl (own_below HW8.out.b (below_al _ _) (Nat.le_refl _)) ⟨w8.heap.size, 0, none⟩ 1 1 [.int .i64 (ff - r0 - mo)] rfl rfl (cell_one_new _ _ _) (one_cell rfl) (by have := HLN.out.2; unfold maxLen; omega) (by have := HLN.out.2; omega) (Nat.le_trans HW8.out.bel.size (below_al _ _).size) ?_; intro v2 w9 hown2 hgrow2 _ hat2; refine Still.go ?_)
                unfold Still
                have HW9 := hide' (HW8.out.growB hown2 hgrow2 hat2)
                rw [← HEX.out.1, ← HEX.out.2.1] at HW9
                clear hown2 hgrow2 hat2 HW8
                by_cases h2 : L = 2
                · have g1 : w9.cell? ⟨G, 1, none⟩ = some (.int .i64 0) := (cells_at HW9.out.g 1).trans (by subst h2; rfl)
                  have t1 := frozen_no HW9.out.g 1
                  have q4n : w9.cell? ⟨b4, o4, none⟩ = some (.int .i64 r0) := up_cell HW9.out.bel Q4.out
                  have HXX : Hid ((docX ls f r0 L 0).set 1 (r0 + (ff - r0 - mo)) = docX ls f r0 L 1) := by show _ = _; unfold docX; rw [if_neg (by omega), if_pos ⟨by decide, h2⟩, HEX.out.2.2, h2]; rfl
                  have HWN : Hid (HS w (w9.setCell ⟨G, 1, none⟩ (.int .i64 (r0 + (ff - r0 - mo)))) v' v2 G (docN ls f r0 r1 1) (docV ls f r0 r1 1) (docX ls f r0 L 1)) := by rw [← HXX.out]; exact HW9.out.set 1 _
                  clear HW9 HXX HEX
                  subst h2
                  go_wp2_with fail
                  go_roundw
                  case rel => exact ⟨1, by go_num, by omega, HDN, HWN⟩
                  case measure => simp [intOf]
                · have h1 : L = 1 := by omega
                  have HXX : Hid (docX ls f r0 L 0 = docX ls f r0 L 1) := by show _ = _; unfold docX; rw [if_neg (by omega), if_neg (by omega)]
                  rw [HXX.out] at HW9
                  clear HXX HEX h2
                  subst h1
                  go_wp2_with fail
                  go_roundw
                  case rel => exact ⟨1, by go_num, by omega, HDN, HW9⟩
                  case measure => simp [intOf]
              · have HEX : Hid (docN ls f r0 r1 (0 + 1) = docN ls f r0 r1 0 ++ [ff - r0] ∧ docV ls f r0 r1 (0 + 1) = docV ls f r0 r1 0 ++ [(0 : Int)] ∧ spOf (lkD ls 0) f.a r0 = (0 : Int)) := by
                  have e1 : levOf (lkD ls 0) f.a r0 = ff - r0 := by rw [← HFQ.out, HLD.out.1, if_neg hm, Int.sub_zero]
                  have e2 : spOf (lkD ls 0) f.a r0 = (0 : Int) := by rw [← HFQ.out, HLD.out.2, if_neg hm]
                  refine ⟨?_, ?_, e2⟩
                  · rw [← e1]; rfl
                  · rw [← e2]; rfl
                go_wp2_with (at_builtin; refine wpList_append_own_at _ rfl _ _ 39 rfl w.heap.size 3 i3 (.int .i64 0) 1 8 Try.underlying39 hi3 h30 h31 h32 rfl (by decide) _ _ _ rfl (own_below HW.out.a (below_al _ _) (Nat.le_refl _)) ⟨wc.heap.size, 0, none⟩ 1 1 [.int .i64 (ff - r0)] rfl rfl (cell_one_new _ _ _) (one_cell rfl) (by have := HLN.out.1; unfold maxLen; omega) (by have := HLN.out.1; omega) (Nat.le_trans HW.out.bel.size (below_al _ _).size) ?_; intro v' w8 hown' hgrow _ hat; refine Still.go ?_)
                unfold Still
                have HW8 := hide' (HW.out.growA hown' hgrow hat)
                clear hown' hgrow hat HW q4' m1
                go_wp2_with (at_builtin; refine wpList_append_own_at _ rfl _ _ 39 rfl w.heap.size 3 i3 (.int .i64 0) 1 8 Try.underlying39 hi3 h30 h31 h32 rfl (by decide) _ _ _ rfl (own_below HW8.out.b (below_al _ _) (Nat.le_refl _)) ⟨w8.heap.size, 0, none⟩ 1 1 [.int .i64 ((0 : Int))] rfl rfl (cell_one_new _ _ _) (one_cell rfl) (by have := HLN.out.2; unfold maxLen; omega) (by have := HLN.out.2; omega) (Nat.le_trans HW8.out.bel.size (below_al _ _).size) ?_; intro v2 w9 hown2 hgrow2 _ hat2; refine Still.go ?_)
                unfold Still
                have HW9 := hide' (HW8.out.growB hown2 hgrow2 hat2)
                rw [← HEX.out.1, ← HEX.out.2.1] at HW9
                clear hown2 hgrow2 hat2 HW8
                by_cases h2 : L = 2
                · have g1 : w9.cell? ⟨G, 1, none⟩ = some (.int .i64 0) := (cells_at HW9.out.g 1).trans (by subst h2; rfl)
                  have t1 := frozen_no HW9.out.g 1
                  have q4n : w9.cell? ⟨b4, o4, none⟩ = some (.int .i64 r0) := up_cell HW9.out.bel Q4.out
                  have HXX : Hid ((docX ls f r0 L 0).set 1 (r0) = docX ls f r0 L 1) := by show _ = _; unfold docX; rw [if_neg (by omega), if_pos ⟨by decide, h2⟩, HEX.out.2.2, h2, Int.add_zero]; rfl
                  have HWN : Hid (HS w (w9.setCell ⟨G, 1, none⟩ (.int .i64 (r0))) v' v2 G (docN ls f r0 r1 1) (docV ls f r0 r1 1) (docX ls f r0 L 1)) := by rw [← HXX.out]; exact HW9.out.set 1 _
                  clear HW9 HXX HEX
                  subst h2
                  go_wp2_with fail
                  go_roundw
                  case rel => exact ⟨1, by go_num, by omega, HDN, HWN⟩
                  case measure => simp [intOf]
                · have h1 : L = 1 := by omega
                  have HXX : Hid (docX ls f r0 L 0 = docX ls f r0 L 1) := by show _ = _; unfold docX; rw [if_neg (by omega), if_neg (by omega)]
                  rw [HXX.out] at HW9
                  clear HXX HEX h2
                  subst h1
                  go_wp2_with fail
                  go_roundw
                  case rel => exact ⟨1, by go_num, by omega, HDN, HW9⟩
                  case measure => simp [intOf]
      · obtain ⟨b1, o1, x1, e1, q1⟩ := ints_cell2 H1.out 1 (by rw [list_lenX _ _ hL]; exact hlt)
        obtain ⟨b2, o2, x2, e2, q2⟩ := ints_cell2 H2.out 1 (by rw [list_lenX _ _ hL]; exact hlt)
        obtain ⟨b3, o3, x3, e3, q3⟩ := ints_cell2 H3.out 1 (by rw [HLE.out.1]; exact hlt)
        obtain ⟨b4, o4, x4, e4, q4⟩ := ints_cell2 H4.out 1 (by rw [HLE.out.2]; exact hlt)
        obtain ⟨lb, lo, eal, _, m0, m1, _, m3, _⟩ := lake_cells HX.out (k := 1) (by rw [HL.out]; exact hlt)
        simp only [Value.slice.injEq] at e1 e2 e3 e4
        obtain ⟨rfl, z1, rfl⟩ := e1
        obtain ⟨rfl, z2, rfl⟩ := e2
        obtain ⟨rfl, z3, rfl⟩ := e3
        obtain ⟨rfl, z4, rfl⟩ := e4
        subst eal
        rw [list_at1X _ _ hlt] at q1 q2
        have hsb := good_bounds HOK.out HL.out HG.out
        have hib := HIN.out 1 hlt
        have ok := lkD_ok HOK.out (i := 1) (by rw [HL.out]; exact hlt)
        have lk1 := ok.l; have lk2 := ok.s; have lk3 := ok.m; have lk4 := ok.x; have lk5 := ok.t
        have hff : f.b = s.l1 + (ir.getD 1 0 + s.u1) := by rw [hf]; exact if_pos hlt
        rw [← hr1] at q4
        obtain ⟨le, hle⟩ : ∃ x, x = (lkD ls 1).least := ⟨_, rfl⟩
        obtain ⟨mo, hmo⟩ : ∃ x, x = (lkD ls 1).most := ⟨_, rfl⟩
        obtain ⟨tu, htu⟩ : ∃ x, x = (lkD ls 1).turb := ⟨_, rfl⟩
        obtain ⟨lv, hlv⟩ : ∃ x, x = s.l1 := ⟨_, rfl⟩
        obtain ⟨uu, huu⟩ : ∃ x, x = s.u1 := ⟨_, rfl⟩
        obtain ⟨ii, hii⟩ : ∃ x, x = ir.getD 1 0 := ⟨_, rfl⟩
        have hsh := @shut_iff (lkD ls 1) f.b r1
        have hld := @lev_doc (lkD ls 1) f.b r1
        rw [← hle] at m0 lk1 lk2 hsh
        rw [← hmo] at m1 lk3 lk4 hld
        rw [← htu] at m3 lk5 hsh
        have hbd : (0 ≤ lv ∧ lv ≤ 20) ∧ (0 ≤ uu ∧ uu ≤ 30) ∧ (0 ≤ ii ∧ ii ≤ 10) := by rw [hlv, huu, hii]; omega
        rw [← hlv] at q1 hff
        rw [← huu] at q2 hff
        rw [← hii] at q3 hff
        obtain ⟨ff, hfq⟩ : ∃ x, x = f.b := ⟨_, rfl⟩
        rw [← hfq] at hff hsh hld
        clear hf hr0 hr1
        have HSH := hide' hsh
        have HFB : Hid (0 ≤ ff ∧ ff ≤ 60) := by show _ ∧ _; omega
        have HLD := hide' hld
        have hmb : 0 ≤ mo ∧ mo ≤ 20 := by omega
        have HFQ := hide' hfq
        clear hfq
        clear z1 z2 z3 z4 hsb hib ok hle hmo htu hlv huu hii hsh hld lk2 lk3
        have Q4 : Hid (w.cell? ⟨b4, o4 + 1, none⟩ = some (.int .i64 r1)) := q4
        replace q1 := up_cell HW.out.bel q1
        replace q2 := up_cell HW.out.bel q2
        replace q3 := up_cell HW.out.bel q3
        replace q4 := up_cell HW.out.bel q4
        replace m0 := up_cell HW.out.bel m0
        replace m1 := up_cell HW.out.bel m1
        replace m3 := up_cell HW.out.bel m3
        have hkl : ((1 : Nat) : Int) < (L : Int) := by omega
        simp only [show ((1 : Nat) : Int) = 1 from rfl] at hkl ⊢
        go_upto_region 7 with fail
        have HWD := hide' (fun m => HW.out.more (below_drewN (Below.refl _ wr) m))
        have HCD : Hid (∀ m, (wr.drewN m).cell? ⟨b4, o4 + 1, none⟩ = some (.int .i64 r1) ∧ (wr.drewN m).cell? ⟨lb, lo + 1 * 5, none⟩ = some (.int .i64 le) ∧ (wr.drewN m).cell? ⟨lb, lo + 1 * 5 + 1, none⟩ = some (.int .i64 mo) ∧ (wr.drewN m).cell? ⟨lb, lo + 1 * 5 + 3, none⟩ = some (.int .i64 tu)) := fun m => ⟨q4, m0, m1, m3⟩
        clear q4 m0 m1 m3 HW
        go_cut [18] from 29 to 42 (fun p wc => p = .int .i64 ff ∧ ∃ m, wc = wr.drewN m)
        case first =>
          go_quiet (fail)
          go_wp2_with fail
          go_meet
          case rel => exact ⟨by rw [hff]; congr 1; omega, _, rfl⟩
        case rest =>
          obtain ⟨rfl, m, hwc⟩ := hcut
          obtain ⟨q4, m0, m1, m3⟩ := HCD.out m
          have HW := hide' (HWD.out m)
          rw [← hwc] at q4 m0 m1 m3 HW
          clear HCD HWD hwc q1 q2 q3 hff
          simp only [Nat.one_mul] at m0 m1 m3
          go_upto_region 8 with fail
          have HWD := hide' (fun m => HW.out.more (below_drewN (Below.refl _ wc) m))
          have HCD : Hid (∀ m, (wc.drewN m).cell? ⟨b4, o4 + 1, none⟩ = some (.int .i64 r1) ∧ (wc.drewN m).cell? ⟨lb, lo + 5 + 1, none⟩ = some (.int .i64 mo)) := fun m => ⟨q4, m1⟩
          have hffb : 0 ≤ ff ∧ ff ≤ 60 := HFB.out
          clear HW m1
          go_cut [73] from 43 to 72 (fun p wd => ∃ q : Bool, p = .bool q ∧ Hid (q = !(withinB r1 0 (freeOf (lkD ls 1) ff))) ∧ ∃ m, wd = wc.drewN m)
          case first =>
            clear HWD HCD
            have HQ := hide' (shut_q HSH.out)
            by_cases n1 : r1 < 0
            · have HQQ := hide' (HQ.out.1 n1)
              go_quiet (fail)
              go_wp2_with fail
              go_meet
              case rel => exact ⟨true, rfl, HQQ, _, rfl⟩
            · by_cases n2 : tu < r1
              · have HQQ := hide' (HQ.out.2.1 n2)
                go_quiet (fail)
                go_wp2_with fail
                go_meet
                case rel => exact ⟨true, rfl, HQQ, _, rfl⟩
              · by_cases n3 : ff - r1 < le
                · have HQQ := hide' (HQ.out.2.2.1 n3)
                  go_quiet (fail)
                  go_wp2_with fail
                  go_meet
                  case rel => exact ⟨true, rfl, HQQ, _, rfl⟩
                · have HQQ := hide' (HQ.out.2.2.2 n1 n2 n3)
                  go_quiet (fail)
                  go_wp2_with fail
                  go_meet
                  case rel => exact ⟨false, rfl, HQQ, _, rfl⟩
          case rest =>
            obtain ⟨q, rfl, HQ, m2, hwd⟩ := hcut
            have HW := hide' (HWD.out m2)
            obtain ⟨q4', m1⟩ := HCD.out m2
            rw [← hwd] at HW q4' m1
            clear HWD HCD hwd q4 m0 m3
            cases q with
            | true =>
              have HNO : Hid (hourOk ls L s ir rr = false) := by
                have h : withinB r1 0 (freeOf (lkD ls 1) ff) = false := by have := HQ.out; cases e : withinB r1 0 (freeOf (lkD ls 1) ff) with
                  | false => rfl
                  | true => rw [e] at this; cases this
                rw [HFQ.out, HFE.out] at h
                refine ask_no1 ?_ hlt
                have ef : (free2 ls L (full2 L s ir)).b = freeOf (lkD ls 1) (full2 L s ir).b := if_pos hlt
                rw [ef, ← HRE.out.2]
                exact h
              have HFN := hide' (HPO.out (.returned (.tuple #[.slice none 0 0, .slice none 0 0, .slice none 0 0, .bool false])) wc ⟨.inl ⟨HNO.out, rfl⟩, HW.out.bel⟩)
              clear HNO HW HPO q4' m1
              go_wp2_with fail
              refine bodyPost_ret (results_tmp4 rfl _ _ _) rfl ?_
              exact HFN.out
            | false =>
              have HQ1 : Hid (withinB r1 0 (freeOf (lkD ls 1) ff) = true) := by have := HQ.out; cases e : withinB r1 0 (freeOf (lkD ls 1) ff) with
                | false => rw [e] at this; cases this
                | true => rfl
              obtain ⟨n1, n2, n3⟩ := HSH.out.1 HQ1.out
              have HLN : Hid ((docN ls f r0 r1 1).length = 1 ∧ (docV ls f r0 r1 1).length = 1) := ⟨rfl, rfl⟩
              have HDN : Hid (docOk ls f r0 r1 (1 + 1)) := ⟨fun _ => HDO.out.1 (by decide), fun _ => by rw [← HFQ.out]; exact HQ1.out⟩
              by_cases hm : mo < ff - r1
              · have HEX : Hid (docN ls f r0 r1 (1 + 1) = docN ls f r0 r1 1 ++ [ff - r1 - (ff - r1 - mo)] ∧ docV ls f r0 r1 (1 + 1) = docV ls f r0 r1 1 ++ [ff - r1 - mo] ∧ spOf (lkD ls 1) f.b r1 = ff - r1 - mo) := by
                  have e1 : levOf (lkD ls 1) f.b r1 = ff - r1 - (ff - r1 - mo) := by rw [← HFQ.out, HLD.out.1, if_pos hm]
                  have e2 : spOf (lkD ls 1) f.b r1 = ff - r1 - mo := by rw [← HFQ.out, HLD.out.2, if_pos hm]
                  refine ⟨?_, ?_, e2⟩
                  · rw [← e1]; rfl
                  · rw [← e2]; rfl
                go_wp2_with (at_builtin; refine wpList_append_own_at _ rfl _ _ 39 rfl w.heap.size 3 i3 (.int .i64 0) 1 8 Try.underlying39 hi3 h30 h31 h32 rfl (by decide) _ _ _ rfl (own_below HW.out.a (below_al _ _) (Nat.le_refl _)) ⟨wc.heap.size, 0, none⟩ 1 1 [.int .i64 (ff - r1 - (ff - r1 - mo))] rfl rfl (cell_one_new _ _ _) (one_cell rfl) (by have := HLN.out.1; unfold maxLen; omega) (by have := HLN.out.1; omega) (Nat.le_trans HW.out.bel.size (below_al _ _).size) ?_; intro v' w8 hown' hgrow _ hat; refine Still.go ?_)
                unfold Still
                have HW8 := hide' (HW.out.growA hown' hgrow hat)
                clear hown' hgrow hat HW q4' m1
                go_wp2_with (at_builtin; refine wpList_append_own_at _ rfl _ _ 39 rfl w.heap.size 3 i3 (.int .i64 0) 1 8 Try.underlying39 hi3 h30 h31 h32 rfl (by decide) _ _ _ rfl (own_below HW8.out.b (below_al _ _) (Nat.le_refl _)) ⟨w8.heap.size, 0, none⟩ 1 1 [.int .i64 (ff - r1 - mo)] rfl rfl (cell_one_new _ _ _) (one_cell rfl) (by have := HLN.out.2; unfold maxLen; omega) (by have := HLN.out.2; omega) (Nat.le_trans HW8.out.bel.size (below_al _ _).size) ?_; intro v2 w9 hown2 hgrow2 _ hat2; refine Still.go ?_)
                unfold Still
                have HW9 := hide' (HW8.out.growB hown2 hgrow2 hat2)
                rw [← HEX.out.1, ← HEX.out.2.1] at HW9
                clear hown2 hgrow2 hat2 HW8
                have h2 : L = 2 := by omega
                have HXX : Hid (docX ls f r0 L 1 = docX ls f r0 L 2) := by show _ = _; unfold docX; rw [if_pos ⟨by decide, h2⟩, if_pos ⟨by decide, h2⟩]
                rw [HXX.out] at HW9
                clear HXX HEX
                subst h2
                go_wp2_with fail
                go_roundw
                case rel => exact ⟨2, by go_num, by omega, HDN, HW9⟩
                case measure => simp [intOf]
              · have HEX : Hid (docN ls f r0 r1 (1 + 1) = docN ls f r0 r1 1 ++ [ff - r1] ∧ docV ls f r0 r1 (1 + 1) = docV ls f r0 r1 1 ++ [(0 : Int)] ∧ spOf (lkD ls 1) f.b r1 = (0 : Int)) := by
                  have e1 : levOf (lkD ls 1) f.b r1 = ff - r1 := by rw [← HFQ.out, HLD.out.1, if_neg hm, Int.sub_zero]
                  have e2 : spOf (lkD ls 1) f.b r1 = (0 : Int) := by rw [← HFQ.out, HLD.out.2, if_neg hm]
                  refine ⟨?_, ?_, e2⟩
                  · rw [← e1]; rfl
                  · rw [← e2]; rfl
                go_wp2_with (at_builtin; refine wpList_append_own_at _ rfl _ _ 39 rfl w.heap.size 3 i3 (.int .i64 0) 1 8 Try.underlying39 hi3 h30 h31 h32 rfl (by decide) _ _ _ rfl (own_below HW.out.a (below_al _ _) (Nat.le_refl _)) ⟨wc.heap.size, 0, none⟩ 1 1 [.int .i64 (ff - r1)] rfl rfl (cell_one_new _ _ _) (one_cell rfl) (by have := HLN.out.1; unfold maxLen; omega) (by have := HLN.out.1; omega) (Nat.le_trans HW.out.bel.size (below_al _ _).size) ?_; intro v' w8 hown' hgrow _ hat; refine Still.go ?_)
                unfold Still
                have HW8 := hide' (HW.out.growA hown' hgrow hat)
                clear hown' hgrow hat HW q4' m1
                go_wp2_with (at_builtin; refine wpList_append_own_at _ rfl _ _ 39 rfl w.heap.size 3 i3 (.int .i64 0) 1 8 Try.underlying39 hi3 h30 h31 h32 rfl (by decide) _ _ _ rfl (own_below HW8.out.b (below_al _ _) (Nat.le_refl _)) ⟨w8.heap.size, 0, none⟩ 1 1 [.int .i64 ((0 : Int))] rfl rfl (cell_one_new _ _ _) (one_cell rfl) (by have := HLN.out.2; unfold maxLen; omega) (by have := HLN.out.2; omega) (Nat.le_trans HW8.out.bel.size (below_al _ _).size) ?_; intro v2 w9 hown2 hgrow2 _ hat2; refine Still.go ?_)
                unfold Still
                have HW9 := hide' (HW8.out.growB hown2 hgrow2 hat2)
                rw [← HEX.out.1, ← HEX.out.2.1] at HW9
                clear hown2 hgrow2 hat2 HW8
                have h2 : L = 2 := by omega
                have HXX : Hid (docX ls f r0 L 1 = docX ls f r0 L 2) := by show _ = _; unfold docX; rw [if_pos ⟨by decide, h2⟩, if_pos ⟨by decide, h2⟩]
                rw [HXX.out] at HW9
                clear HXX HEX
                subst h2
                go_wp2_with fail
                go_roundw
                case rel => exact ⟨2, by go_num, by omega, HDN, HW9⟩
                case measure => simp [intOf]
    · obtain rfl : k = L := by omega
      have HYES : Hid (hourOk ls k s ir rr = true) := askB_iff.2 ⟨fun h => by
        have q := HDO.out.1 h
        have ef : (free2 ls k (full2 k s ir)).a = freeOf (lkD ls 0) (full2 k s ir).a := if_pos h
        rw [ef, ← HRE.out.1, ← HFE.out]
        unfold withinB at q
        simpa using q, fun h => by
        have q := HDO.out.2 h
        have ef : (free2 ls k (full2 k s ir)).b = freeOf (lkD ls 1) (full2 k s ir).b := if_pos h
        rw [ef, ← HRE.out.2, ← HFE.out]
        unfold withinB at q
        simpa using q⟩
      have HLS := hide' (doc_end (ls := ls) (L := k) hL HFE.out HRE.out.1 HRE.out.2)
      have HFN : Hid (PO (.returned (.tuple #[u14, .slice (some ⟨G, 0, none⟩) k k, u16, .bool true])) wr) := by
        obtain ⟨d1, d2, d3, d4, d5⟩ := HLS.out
        refine HPO.out _ _ ⟨.inr ⟨HYES.out, _, _, _, rfl, ?_, ?_, ?_⟩, HW.out.bel⟩
        · have h := HW.out.a
          rw [d4] at h
          rw [← d1]; exact h
        · rw [← d3]
          exact ints_own HW.out.g HW.out.sG (doc_len ls f r0 k) (by omega)
        · have h := HW.out.b
          rw [d5] at h
          rw [← d2]; exact h
      clear HW HPO HYES HLS
      go_wp2_with fail
      refine bodyPost_ret (results_tmp4 rfl _ _ _) rfl ?_
      exact HFN.out
end Go.Proofs.Ytnhddmcdmcpkeaj
