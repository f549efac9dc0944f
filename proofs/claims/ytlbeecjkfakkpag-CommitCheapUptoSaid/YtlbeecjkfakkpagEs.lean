/- The schedule that is told, in the program: the walk. -/
import Derived.Test.YtlbeecjkfakkpagEq
namespace Go.Proofs.Ytlbeecjkfakkpag
open Go.RowKit Go.Shelf Go.ChangeMaps

theorem Clone_all (l : List Bool) (n : Nat) (v : Value) (w : World) (hx : RowAt w v n 1 (l.map Value.bool)) (hl : n ≤ 1000) :
    Calls Try.prog 62 #[v] w fun e w' => ∃ v', e = .returned v' ∧ w'.ownsRow w.heap.size 4 1 v' n (l.map Value.bool) ∧ Below w.heap.size w w' := by
  obtain ⟨a, c, rfl⟩ := rowAt_slice hx
  cases a with
  | some ad => exact Clone_any l n ad c w hx hl
  | none =>
    obtain ⟨h1, a', c', ex, h2⟩ := hx
    cases ex
    have h0 : n = 0 := by
      rcases Nat.eq_zero_or_pos n with h | h
      · exact h
      · obtain ⟨b, off, e, _⟩ := h2 0 _ (List.getElem?_eq_getElem (by omega))
        cases e
    subst h0
    have hl0 : l.map Value.bool = [] := List.length_eq_zero_iff.1 (by simpa using h1)
    rw [hl0]
    have q22 : ∀ (w : World) (a : Option Addr) (n c n' c' : Nat), (binOp .eql 23 (.slice a n c) (.slice none n' c')).run Try.prog w = .ok (.bool a.isNone) w := fun w a n c n' c' => Lib.run_eql_slice_nil w _ _ a n c n' c' Try.underlying23
    clear h1 h2 hl0
    go_enter Try.func62, Try.ntmps62
    go_wp2
    go_ret
    exact ⟨_, rfl, World.ownsRow_nil _ _ _ _, Below.refl _ _⟩
set_option maxRecDepth 100000 in
set_option maxHeartbeats 3000000 in
theorem schedule_any (us : List UnitM) (need spare : List Int) (hp : Plan us need spare) : ScheduleGood us need spare := by
  intro lv cv uv ar an as' nr cr cn ns cs M W hlk hs
  obtain ⟨i5, hi5, hs0, hs1, hs2⟩ := info_parts Try.info23
  obtain ⟨ag, cg, rfl⟩ := rowAt_slice hs.units
  obtain ⟨bc, oc, cc, exc⟩ : ∃ bc oc cc, cv = .slice (some ⟨bc, oc, none⟩) (choL us.length).length cc := by obtain ⟨bc, oc, cc, _, _, exc, _, _⟩ := hs.cho.cell 0 (by rw [choL_len]; exact Nat.two_pow_pos _); exact ⟨bc, oc, cc, exc⟩
  rw [choL_len] at exc
  subst exc
  obtain ⟨au, cu, rfl⟩ := hs.runs.slice
  rw [runsL_len] at hs ⊢
  have HSR := hide' hs
  have HP := hide' hp
  have h8 := hp.h8
  have HMM : Hid (M < W.heap.size) := by obtain ⟨es, cl, hm, _⟩ := hs.known; exact (Array.getElem?_eq_some_iff.1 hm).1
  obtain ⟨a, b, c, d', he⟩ := list4I (stand_len (t := staysL us) (by rw [staysL, List.length_map]; exact hp.h4))
  obtain ⟨pw, hpwe⟩ : ∃ p, p = 2 ^ us.length := ⟨_, rfl⟩
  have HPW := hide' hpwe
  have hpw16 : pw ≤ 16 := by rw [hpwe]; exact pow16' hp.h4
  rw [← hpwe] at HSR ⊢
  rw [momT_is he, show momV 0 a b c d' = .agg #[.int .i64 0, .int .i64 a, .int .i64 b, .int .i64 c, .int .i64 d'] from rfl]
  have HE0 := hide' he
  have HLK := hide' hlk
  clear hs hp he hlk hpwe
  go_enter Try.func55, Try.ntmps55
  go_wp2_with fail
  have HP0 : Hid (PSt W ((W.alloc (.cells #[.slice ag us.length cg, .slice ar nr cr, .slice an need.length cn, .slice as' ns cs, .slice (some ⟨bc, oc, none⟩) pw cc, .slice au need.length cu, .map (some M)] 94)).alloc (.cells #[.int .i64 0, .int .i64 a, .int .i64 b, .int .i64 c, .int .i64 d'] 97)) us need spare M W.heap.size (W.heap.size + 1) #[.slice ag us.length cg, .slice ar nr cr, .slice an need.length cn, .slice as' ns cs, .slice (some ⟨bc, oc, none⟩) pw cc, .slice au need.length cu, .map (some M)] #[.int .i64 0, .int .i64 a, .int .i64 b, .int .i64 c, .int .i64 d'] (.slice none 0 0) [] 0 []) := by
    obtain ⟨es, cl, hm, hk⟩ := HSR.out.known
    have hlt := HMM.out
    have h2 := alloc_new (W.alloc (.cells #[.slice ag us.length cg, .slice ar nr cr, .slice an need.length cn, .slice as' ns cs, .slice (some ⟨bc, oc, none⟩) pw cc, .slice au need.length cu, .map (some M)] 94)) (.cells #[.int .i64 0, .int .i64 a, .int .i64 b, .int .i64 c, .int .i64 d'] 97)
    rw [World.size_alloc] at h2
    exact ⟨⟨(alloc_old _ _ (by simp)).trans (alloc_new _ _), h2⟩, ((But.refl M W).alloc _).alloc _, ⟨es, cl, (alloc_old _ _ (by simp; omega)).trans ((alloc_old _ _ hlt).trans hm), hk⟩, by omega, by omega, by omega, by omega, World.ownsRow_nil _ _ _ _, ⟨rfl, fun i b h => by cases h⟩⟩
  obtain ⟨B, hB⟩ : ∃ B, B = W.heap.size + 1 := ⟨_, rfl⟩
  rw [← hB] at HP0 ⊢
  obtain ⟨A, hA⟩ : ∃ A, A = W.heap.size := ⟨_, rfl⟩
  obtain ⟨W2, hW2⟩ : ∃ W2, W2 = (W.alloc (.cells #[.slice ag us.length cg, .slice ar nr cr, .slice an need.length cn, .slice as' ns cs, .slice (some ⟨bc, oc, none⟩) pw cc, .slice au need.length cu, .map (some M)] 94)).alloc (.cells #[.int .i64 0, .int .i64 a, .int .i64 b, .int .i64 c, .int .i64 d'] 97) := ⟨_, rfl⟩
  rw [← hW2] at HP0 ⊢
  have HP1 : Hid (PSt W W2 us need spare M A B #[.slice ag us.length cg, .slice ar nr cr, .slice an need.length cn, .slice as' ns cs, .slice (some ⟨bc, oc, none⟩) pw cc, .slice au need.length cu, .map (some M)] #[.int .i64 0, .int .i64 a, .int .i64 b, .int .i64 c, .int .i64 d'] (.slice none 0 0) [] 0 []) := by rw [hA]; exact HP0
  rw [show (Value.pointer (some { block := W.heap.size, off := 0 })) = Value.pointer (some { block := A, off := 0 }) by rw [hA]]
  clear hB hA hW2 HP0
  go_loopw [5] (fun mv wr => ∃ (k : Nat) (t : List Int) (vs : List Value) (a b c d' : Int) (dn : List (List Bool)), k ≤ need.length ∧ Hid (t.length = us.length ∧ StayOk t ∧ stand t = [a, b, c, d'] ∧ (∃ o, look us need spare (need.length - k) k t = some o) ∧ planL us need spare need.length 0 (staysL us) = dn ++ planL us need spare (need.length - k) k t) ∧ Hid (PSt W wr us need spare M A B #[.slice ag us.length cg, .slice ar nr cr, .slice an need.length cn, .slice as' ns cs, .slice (some ⟨bc, oc, none⟩) pw cc, .slice au need.length cu, .map (some M)] #[.int .i64 k, .int .i64 a, .int .i64 b, .int .i64 c, .int .i64 d'] mv vs k dn)) (fun _ wr => need.length - (match wr.cell? ⟨B, 0, none⟩ with | some (.int _ n) => n.toNat | _ => 0))
  case atStart => exact ⟨0, staysL us, [], a, b, c, d', [], Nat.zero_le _, ⟨by rw [staysL, List.length_map], stays_ok HP.out.may, HE0.out, HLK.out, rfl⟩, HP1⟩
  case round =>
    clear HP1 HE0 HLK
    obtain ⟨k, t, vs, a, b, c, d', dn, hk, HT, HST⟩ := hrel
    obtain ⟨am, cm, rfl⟩ := own_slice HST.out.own
    have pa0 : wr.cell? ⟨A, 0, none⟩ = some (.slice ag us.length cg) := by simp [World.cell?, HST.out.tb.a]
    have pa1 : wr.cell? ⟨A, 1, none⟩ = some (.slice ar nr cr) := by simp [World.cell?, HST.out.tb.a]
    have pa2 : wr.cell? ⟨A, 2, none⟩ = some (.slice an need.length cn) := by simp [World.cell?, HST.out.tb.a]
    have pa3 : wr.cell? ⟨A, 3, none⟩ = some (.slice as' ns cs) := by simp [World.cell?, HST.out.tb.a]
    have pa4 : wr.cell? ⟨A, 4, none⟩ = some (.slice (some ⟨bc, oc, none⟩) pw cc) := by simp [World.cell?, HST.out.tb.a]
    have pa5 : wr.cell? ⟨A, 5, none⟩ = some (.slice au need.length cu) := by simp [World.cell?, HST.out.tb.a]
    have pa6 : wr.cell? ⟨A, 6, none⟩ = some (.map (some M)) := by simp [World.cell?, HST.out.tb.a]
    have pb0 : wr.cell? ⟨B, 0, none⟩ = some (.int .i64 k) := by simp [World.cell?, HST.out.tb.b]
    have pb1 : wr.cell? ⟨B, 1, none⟩ = some (.int .i64 a) := by simp [World.cell?, HST.out.tb.b]
    have pb2 : wr.cell? ⟨B, 2, none⟩ = some (.int .i64 b) := by simp [World.cell?, HST.out.tb.b]
    have pb3 : wr.cell? ⟨B, 3, none⟩ = some (.int .i64 c) := by simp [World.cell?, HST.out.tb.b]
    have pb4 : wr.cell? ⟨B, 4, none⟩ = some (.int .i64 d') := by simp [World.cell?, HST.out.tb.b]
    by_cases hlt : k < need.length
    · obtain ⟨htl, hok, hst, ⟨⟨c0, kk⟩, ho⟩, hpl⟩ := HT.out
      obtain ⟨dd, hdd⟩ : ∃ dd, need.length - k = dd + 1 := ⟨need.length - (k + 1), by omega⟩
      have hdk : need.length - (k + 1) = dd := by omega
      rw [hdd] at ho hpl
      obtain ⟨t', s, o', hnx, hlk', hkk, hplan⟩ := plan_succ ho
      obtain ⟨b', off', cc', a1, c1, exq, hcell, hrow⟩ := HSR.out.cho.cell kk (by rw [choL_len]; exact hkk)
      simp only [Value.slice.injEq, Option.some.injEq, Addr.mk.injEq] at exq
      obtain ⟨⟨e1, e2, _⟩, e4, e3⟩ := exq
      clear e4
      subst e1 e2 e3
      have hbk : (choL us.length)[kk]'(by rw [choL_len]; exact hkk) = bits us.length kk := by
        have := choL_get hkk
        rw [List.getElem?_eq_getElem (by rw [choL_len]; exact hkk)] at this
        exact Option.some.inj this
      rw [hbk, bits_len] at hcell hrow
      have hsp := nextK_spec HP.out.may us.length (Nat.le_refl _) t' s hnx
      have hok' := nextK_ok HP.out.may hok (by rw [htl]; exact Nat.le_refl _) us.length (Nat.le_refl _) t' s hnx
      obtain ⟨a2, b2, c2, d2, he2⟩ := list4I (stand_len (t := t') (by rw [hsp.1]; exact HP.out.h4))
      have hkp : kk < pw := by rw [HPW.out]; exact hkk
      have HAC : Hid (Calls Try.prog 54 #[.agg #[.slice ag us.length cg, .slice ar nr cr, .slice an need.length cn, .slice as' ns cs, .slice (some ⟨bc, oc, none⟩) pw cc, .slice au need.length cu, .map (some M)], .agg #[.int .i64 k, .int .i64 a, .int .i64 b, .int .i64 c, .int .i64 d']] wr.drew fun e W' => e = .returned (.agg #[.int .i64 c0, .int .i64 kk]) ∧ But M wr.drew W' ∧ Srch W' us need spare (.slice ag us.length cg) (.slice (some ⟨bc, oc, none⟩) pw cc) (.slice au need.length cu) M) := by
        have := ahead_all us need spare HP.out (dd + 1) k t _ _ _ ar an as' nr cr cn ns cs M wr.drew (by omega) htl hok ((HST.out.srch HSR.out).below (Below.refl _ wr).drew)
        rw [momT_is hst, ho] at this
        exact this
      have HTN : Hid (∀ w', But M W w' → (∃ es clock, w'.heap[M]? = some (.map es clock) ∧ Known us need spare es.toList) → Calls Try.prog 51 #[.agg #[.slice ag us.length cg, .slice ar nr cr], .agg #[.int .i64 a, .int .i64 b, .int .i64 c, .int .i64 d'], .slice a1 us.length c1] w' fun e w'' => e = .returned (.tuple #[.agg #[.int .i64 a2, .int .i64 b2, .int .i64 c2, .int .i64 d2], .int .i64 s, .int .i64 0]) ∧ Below w'.heap.size w' w'') := fun w' hb hkn => by
        obtain ⟨es, cl, hm, _⟩ := HSR.out.known
        have := turn_any us (bits us.length kk) t (.slice ag us.length cg) (.slice ar nr cr) (.slice a1 us.length c1) w' (hb.row hm HSR.out.units) ⟨_, _, _, rfl⟩ (hb.row hm hrow) (bits_len _ _) HP.out.h4 HP.out.may htl hok
        rw [hst] at this
        refine this.mono ?_
        rintro e w'' ⟨⟨hn, _⟩ | ⟨l, s', hn, rfl⟩, hbb⟩
        · rw [hnx] at hn; cases hn
        · rw [hnx] at hn
          cases hn
          exact ⟨by rw [he2]; rfl, hbb⟩
      have HCL : Hid (∀ w', But M W w' → w'.cell? ⟨bc, oc + kk, none⟩ = some (.slice a1 us.length c1) ∧ Calls Try.prog 62 #[.slice a1 us.length c1] w' fun e w'' => ∃ v', e = .returned v' ∧ w''.ownsRow w'.heap.size 4 1 v' us.length ((bits us.length kk).map Value.bool) ∧ Below w'.heap.size w' w'') := fun w' hb => by
        obtain ⟨es, cl, hm, _⟩ := HSR.out.known
        exact ⟨hb.cell hm hcell, Clone_all _ _ _ _ (hb.row hm hrow) (by have := HP.out.h4; omega)⟩
      have HNT : Hid (t'.length = us.length ∧ StayOk t' ∧ stand t' = [a2, b2, c2, d2] ∧ (∃ o, look us need spare (need.length - (k + 1)) (k + 1) t' = some o) ∧ planL us need spare need.length 0 (staysL us) = (dn ++ [bits us.length kk]) ++ planL us need spare (need.length - (k + 1)) (k + 1) t') := by
        rw [hdk]
        exact ⟨hsp.1, hok', he2, ⟨_, hlk'⟩, by rw [hpl, hplan, List.append_assoc]; rfl⟩
      have hkm : ((k : Nat) : Int) + 1 = ((k + 1 : Nat) : Int) := by omega
      have HKM := hide' hkm
      have hul4 := HP.out.h4
      have HB0 := hide' pb0
      clear htl hok hst ho hpl hdd hdk hnx hlk' hkk hplan hcell hrow hbk hsp hok' he2 HT
      go_wp2_with fail
      refine wp_region_tail (fun W => W.cell? ⟨A, 0, none⟩ = some (.slice ag us.length cg) ∧ W.cell? ⟨A, 1, none⟩ = some (.slice ar nr cr) ∧ W.cell? ⟨A, 2, none⟩ = some (.slice an need.length cn) ∧ W.cell? ⟨A, 3, none⟩ = some (.slice as' ns cs) ∧ W.cell? ⟨A, 4, none⟩ = some (.slice (some ⟨bc, oc, none⟩) pw cc) ∧ W.cell? ⟨A, 5, none⟩ = some (.slice au need.length cu) ∧ W.cell? ⟨A, 6, none⟩ = some (.map (some M)) ∧ W.cell? ⟨B, 0, none⟩ = some (.int .i64 k) ∧ W.cell? ⟨B, 1, none⟩ = some (.int .i64 a) ∧ W.cell? ⟨B, 2, none⟩ = some (.int .i64 b) ∧ W.cell? ⟨B, 3, none⟩ = some (.int .i64 c) ∧ W.cell? ⟨B, 4, none⟩ = some (.int .i64 d')) 8 (by kernel_rfl) ?_
      refine wpAnyD_takeAt 0 (some 17) (v := ?_) rfl (by kernel_rfl) (by kernel_rfl) (by kernel_rfl) (by kernel_rfl) (by kernel_rfl) (fun _ _ _ h => h) (by exact ⟨pa0, pa1, pa2, pa3, pa4, pa5, pa6, pb0, pb1, pb2, pb3, pb4⟩) (fun o hop => ?_) ?_
      rotate_left
      · injection hop with hop
        subst hop
        refine ⟨rfl, fun W hW => ?_⟩
        obtain ⟨s0, s1, s2, s3, s4, s5, s6, s7, s8, s9, s10, s11⟩ := hW
        go_simp
        first
        | rfl
        | rw [if_neg (by omega)]
      try simp only [Act.put, List.setIfInBounds_toArray, List.set_cons_zero, List.set_cons_succ]
      refine wpAnyD_takeAt 1 (some 18) (v := ?_) rfl (by kernel_rfl) (by kernel_rfl) (by kernel_rfl) (by kernel_rfl) (by kernel_rfl) (fun _ _ _ h => h) (by exact ⟨pa0, pa1, pa2, pa3, pa4, pa5, pa6, pb0, pb1, pb2, pb3, pb4⟩) (fun o hop => ?_) ?_
      rotate_left
      · injection hop with hop
        subst hop
        refine ⟨rfl, fun W hW => ?_⟩
        obtain ⟨s0, s1, s2, s3, s4, s5, s6, s7, s8, s9, s10, s11⟩ := hW
        go_simp
        first
        | rfl
        | rw [if_neg (by omega)]
      try simp only [Act.put, List.setIfInBounds_toArray, List.set_cons_zero, List.set_cons_succ]
      refine wpAnyD_takeAt 2 (some 19) (v := ?_) rfl (by kernel_rfl) (by kernel_rfl) (by kernel_rfl) (by kernel_rfl) (by kernel_rfl) (fun _ _ _ h => h) (by exact ⟨pa0, pa1, pa2, pa3, pa4, pa5, pa6, pb0, pb1, pb2, pb3, pb4⟩) (fun o hop => ?_) ?_
      rotate_left
      · injection hop with hop
        subst hop
        refine ⟨rfl, fun W hW => ?_⟩
        obtain ⟨s0, s1, s2, s3, s4, s5, s6, s7, s8, s9, s10, s11⟩ := hW
        go_simp
        first
        | rfl
        | rw [if_neg (by omega)]
      try simp only [Act.put, List.setIfInBounds_toArray, List.set_cons_zero, List.set_cons_succ]
      refine wpAnyD_takeAt 3 (some 20) (v := ?_) rfl (by kernel_rfl) (by kernel_rfl) (by kernel_rfl) (by kernel_rfl) (by kernel_rfl) (fun _ _ _ h => h) (by exact ⟨pa0, pa1, pa2, pa3, pa4, pa5, pa6, pb0, pb1, pb2, pb3, pb4⟩) (fun o hop => ?_) ?_
      rotate_left
      · injection hop with hop
        subst hop
        refine ⟨rfl, fun W hW => ?_⟩
        obtain ⟨s0, s1, s2, s3, s4, s5, s6, s7, s8, s9, s10, s11⟩ := hW
        go_simp
        first
        | rfl
        | rw [if_neg (by omega)]
      try simp only [Act.put, List.setIfInBounds_toArray, List.set_cons_zero, List.set_cons_succ]
      refine wpAnyT_one (i := 4) (by kernel_rfl) rfl rfl (fun K' hK => ?_)
      go_simp
      go_at_call 54
      refine HAC.out.mono ?_
      rintro e w1 ⟨rfl, hb1, hs1⟩
      have HST1 := hide' ((HST.out.below (Below.refl _ wr).drew).on hb1 hs1.known)
      have hch := (HCL.out w1 HST1.out.but).1
      have ea0 : w1.cell? ⟨A, 0, none⟩ = some (.slice ag us.length cg) := by simp [World.cell?, HST1.out.tb.a]
      have ea1 : w1.cell? ⟨A, 1, none⟩ = some (.slice ar nr cr) := by simp [World.cell?, HST1.out.tb.a]
      have ea2 : w1.cell? ⟨A, 2, none⟩ = some (.slice an need.length cn) := by simp [World.cell?, HST1.out.tb.a]
      have ea3 : w1.cell? ⟨A, 3, none⟩ = some (.slice as' ns cs) := by simp [World.cell?, HST1.out.tb.a]
      have ea4 : w1.cell? ⟨A, 4, none⟩ = some (.slice (some ⟨bc, oc, none⟩) pw cc) := by simp [World.cell?, HST1.out.tb.a]
      have ea5 : w1.cell? ⟨A, 5, none⟩ = some (.slice au need.length cu) := by simp [World.cell?, HST1.out.tb.a]
      have ea6 : w1.cell? ⟨A, 6, none⟩ = some (.map (some M)) := by simp [World.cell?, HST1.out.tb.a]
      have eb0 : w1.cell? ⟨B, 0, none⟩ = some (.int .i64 k) := by simp [World.cell?, HST1.out.tb.b]
      have eb1 : w1.cell? ⟨B, 1, none⟩ = some (.int .i64 a) := by simp [World.cell?, HST1.out.tb.b]
      have eb2 : w1.cell? ⟨B, 2, none⟩ = some (.int .i64 b) := by simp [World.cell?, HST1.out.tb.b]
      have eb3 : w1.cell? ⟨B, 3, none⟩ = some (.int .i64 c) := by simp [World.cell?, HST1.out.tb.b]
      have eb4 : w1.cell? ⟨B, 4, none⟩ = some (.int .i64 d') := by simp [World.cell?, HST1.out.tb.b]
      clear hb1 hs1 HAC HST pa0 pa1 pa2 pa3 pa4 pa5 pa6 pb0 pb1 pb2 pb3 pb4
      refine hK.out _ _ (fun _ => by exact ⟨ea0, ea1, ea2, ea3, ea4, ea5, ea6, eb0, eb1, eb2, eb3, eb4⟩) ?_
      clear hK K'
      refine wpAnyT_one (i := 5) (by kernel_rfl) rfl rfl (fun K' hK => ?_)
      go_simp
      rw [field99' c0 kk w1]
      go_simp
      refine hK.out _ _ (fun _ => by exact ⟨ea0, ea1, ea2, ea3, ea4, ea5, ea6, eb0, eb1, eb2, eb3, eb4⟩) ?_
      clear hK K'
      refine wpAnyT_one (i := 6) (by kernel_rfl) rfl rfl (fun K' hK => ?_)
      go_simp
      try rw [if_neg (by omega)]
      try go_simp
      refine hK.out _ _ (fun _ => by exact ⟨ea0, ea1, ea2, ea3, ea4, ea5, ea6, eb0, eb1, eb2, eb3, eb4⟩) ?_
      clear hK K'
      refine wpAnyT_one (i := 7) (by kernel_rfl) rfl rfl (fun K' hK => ?_)
      go_simp
      refine hK.out _ _ (fun _ => by exact ⟨ea0, ea1, ea2, ea3, ea4, ea5, ea6, eb0, eb1, eb2, eb3, eb4⟩) ?_
      clear hK K'
      refine wpAnyT_one (i := 8) (by kernel_rfl) rfl rfl (fun K' hK => ?_)
      go_simp
      refine hK.out _ _ (fun h => absurd rfl h) ?_
      clear hK K' hch ea0 ea1 ea2 ea3 ea4 ea5 ea6 eb0 eb1 eb2 eb3 eb4
      refine wpAnyT_done (by kernel_rfl) ?_ _
      have HCC := hide' (HCL.out w1 HST1.out.but).2
      go_wp2_with fail
      refine HCC.out.mono ?_
      rintro e w2 ⟨v2, rfl, hown2, hb2⟩
      obtain ⟨av, cv2, rfl⟩ := own_slice hown2
      have HST2 := hide' (HST1.out.below hb2)
      have HBO : Hid (BoolsO w2 (.slice av us.length cv2) (bits us.length kk)) := by show World.ownsRow _ _ _ _ _ _ _; rw [bits_len]; exact own_base hown2 (Nat.zero_le _)
      have hsz : W.heap.size ≤ w2.heap.size := HST2.out.but.size
      clear hown2 hb2 HCC HST1
      go_wp2_with (at_builtin; refine wpList_append_own _ rfl _ _ 32 rfl W.heap.size 23 i5 (.slice none 0 0) 1 24 Try.underlying32 hi5 hs0 hs1 hs2 rfl (by decide) _ _ _ rfl (HST2.out.own.alloc _) ⟨w2.heap.size, 0, none⟩ 1 1 [.slice av us.length cv2] rfl rfl (cell_one_new _ _ _) (one_cell rfl) (by unfold maxLen; omega) (by omega) (by simp; omega) ?_; intro z w3 hoz hg3 _; refine Still.go ?_)
      unfold Still
      obtain ⟨az, cz, rfl⟩ := own_slice hoz
      have HST3 := hide' (HST2.out.app HMM.out hg3 hoz HBO.out)
      clear hoz hg3 HST2 HBO
      have fa0 : w3.cell? ⟨A, 0, none⟩ = some (.slice ag us.length cg) := by simp [World.cell?, HST3.out.tb.a]
      have fa1 : w3.cell? ⟨A, 1, none⟩ = some (.slice ar nr cr) := by simp [World.cell?, HST3.out.tb.a]
      have fa2 : w3.cell? ⟨A, 2, none⟩ = some (.slice an need.length cn) := by simp [World.cell?, HST3.out.tb.a]
      have fa3 : w3.cell? ⟨A, 3, none⟩ = some (.slice as' ns cs) := by simp [World.cell?, HST3.out.tb.a]
      have fa4 : w3.cell? ⟨A, 4, none⟩ = some (.slice (some ⟨bc, oc, none⟩) pw cc) := by simp [World.cell?, HST3.out.tb.a]
      have fa5 : w3.cell? ⟨A, 5, none⟩ = some (.slice au need.length cu) := by simp [World.cell?, HST3.out.tb.a]
      have fa6 : w3.cell? ⟨A, 6, none⟩ = some (.map (some M)) := by simp [World.cell?, HST3.out.tb.a]
      have fb0 : w3.cell? ⟨B, 0, none⟩ = some (.int .i64 k) := by simp [World.cell?, HST3.out.tb.b]
      have fb1 : w3.cell? ⟨B, 1, none⟩ = some (.int .i64 a) := by simp [World.cell?, HST3.out.tb.b]
      have fb2 : w3.cell? ⟨B, 2, none⟩ = some (.int .i64 b) := by simp [World.cell?, HST3.out.tb.b]
      have fb3 : w3.cell? ⟨B, 3, none⟩ = some (.int .i64 c) := by simp [World.cell?, HST3.out.tb.b]
      have fb4 : w3.cell? ⟨B, 4, none⟩ = some (.int .i64 d') := by simp [World.cell?, HST3.out.tb.b]
      have HT3 := hide' (HTN.out w3 HST3.out.but HST3.out.known)
      go_wp2_with fail
      refine HT3.out.mono ?_
      rintro e w4 ⟨rfl, hb4⟩
      have HST4 : Hid (∀ o, PSt W (w4.alloc o) us need spare M A B #[.slice ag us.length cg, .slice ar nr cr, .slice an need.length cn, .slice as' ns cs, .slice (some ⟨bc, oc, none⟩) pw cc, .slice au need.length cu, .map (some M)] #[.int .i64 k, .int .i64 a, .int .i64 b, .int .i64 c, .int .i64 d'] (.slice az (k + 1) cz) (vs ++ [.slice av us.length cv2]) (k + 1) (dn ++ [bits us.length kk])) := fun o => (HST3.out.below hb4).below ((Below.refl _ w4).alloc (Nat.le_refl _) o)
      have HFIN : Hid (∀ o, PSt W ((((((w4.alloc o).setCell ⟨B, 0, none⟩ (.int .i64 ((k + 1 : Nat) : Int))).setCell ⟨B, 1, none⟩ (.int .i64 a2)).setCell ⟨B, 2, none⟩ (.int .i64 b2)).setCell ⟨B, 3, none⟩ (.int .i64 c2)).setCell ⟨B, 4, none⟩ (.int .i64 d2)) us need spare M A B #[.slice ag us.length cg, .slice ar nr cr, .slice an need.length cn, .slice as' ns cs, .slice (some ⟨bc, oc, none⟩) pw cc, .slice au need.length cu, .map (some M)] #[.int .i64 ((k + 1 : Nat) : Int), .int .i64 a2, .int .i64 b2, .int .i64 c2, .int .i64 d2] (.slice az (k + 1) cz) (vs ++ [.slice av us.length cv2]) (k + 1) (dn ++ [bits us.length kk])) := fun o => (HST4.out o).setB
      have h0 : ∀ o, (w4.alloc o).cell? ⟨B, 0, none⟩ = some (.int .i64 k) := fun o => by simp [World.cell?, (HST4.out o).tb.b]
      have y0 : ∀ o, (w4.alloc o).frozen? ⟨B, 0, none⟩ = false := fun o => frozen_no (HST4.out o).tb.b _
      have h1 : ∀ o, (w4.alloc o).cell? ⟨B, 1, none⟩ = some (.int .i64 a) := fun o => by simp [World.cell?, (HST4.out o).tb.b]
      have y1 : ∀ o, (w4.alloc o).frozen? ⟨B, 1, none⟩ = false := fun o => frozen_no (HST4.out o).tb.b _
      have h2 : ∀ o, (w4.alloc o).cell? ⟨B, 2, none⟩ = some (.int .i64 b) := fun o => by simp [World.cell?, (HST4.out o).tb.b]
      have y2 : ∀ o, (w4.alloc o).frozen? ⟨B, 2, none⟩ = false := fun o => frozen_no (HST4.out o).tb.b _
      have h3 : ∀ o, (w4.alloc o).cell? ⟨B, 3, none⟩ = some (.int .i64 c) := fun o => by simp [World.cell?, (HST4.out o).tb.b]
      have y3 : ∀ o, (w4.alloc o).frozen? ⟨B, 3, none⟩ = false := fun o => frozen_no (HST4.out o).tb.b _
      have h4 : ∀ o, (w4.alloc o).cell? ⟨B, 4, none⟩ = some (.int .i64 d') := fun o => by simp [World.cell?, (HST4.out o).tb.b]
      have y4 : ∀ o, (w4.alloc o).frozen? ⟨B, 4, none⟩ = false := fun o => frozen_no (HST4.out o).tb.b _
      clear hb4 HT3 HST3 fa0 fa1 fa2 fa3 fa4 fa5 fa6 fb0 fb1 fb2 fb3 fb4
      rw [← hkm] at HFIN
      have HCB : Hid (∀ o, ((((((w4.alloc o).setCell ⟨B, 0, none⟩ (.int .i64 ((k : Int) + 1))).setCell ⟨B, 1, none⟩ (.int .i64 a2)).setCell ⟨B, 2, none⟩ (.int .i64 b2)).setCell ⟨B, 3, none⟩ (.int .i64 c2)).setCell ⟨B, 4, none⟩ (.int .i64 d2)).cell? ⟨B, 0, none⟩ = some (.int .i64 ((k : Int) + 1))) := fun o => by simp [World.cell?, (HFIN.out o).tb.b]
      clear hkm
      go_wp2
      go_roundw
      case rel => exact ⟨k + 1, t', _, a2, b2, c2, d2, _, by omega, HNT, by rw [HKM.out] at HFIN; exact HFIN.out _⟩
      case measure =>
        rw [HCB.out _, HB0.out]
        simp only
        omega
    · have hke : k = need.length := by omega
      subst hke
      obtain ⟨_, _, _, _, hpl⟩ := HT.out
      rw [Nat.sub_self, planL, List.append_nil] at hpl
      have HSG : Hid (SignsAt wr (.slice am need.length cm) (planL us need spare need.length 0 (staysL us))) := by
        rw [hpl]
        have hlen : vs.length = dn.length := HST.out.rows.1
        have hvl : vs.length = need.length := by have := HST.out.own.1; simpa using this
        exact SignsO.at' ⟨vs, by rw [← hlen, hvl]; exact own_base HST.out.own (Nat.zero_le _), HST.out.rows⟩
      have HB := hide' HST.out.but
      clear hpl HT
      go_wp2
      go_ret
      exact ⟨_, rfl, HSG.out, HB.out⟩
end Go.Proofs.Ytlbeecjkfakkpag
