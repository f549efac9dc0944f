/- Contracts of the program's reader: a new name. -/
import Derived.Test.YtpbalclhdhjnoaaGreatDoorKC1
import Derived.WalkKit
import Derived.Test.YtpbalclhdhjnoaaGreatDoorKB1
namespace Go.Proofs.YtpbalclhdhjnoaaGreatDoor
open Go.RowKit Go.Maps

theorem lawS : Keyed Tryz.prog 9 := string_keyed Tryz.underlying9
theorem zeroI (w : World) : (zeroValue 3).run Tryz.prog w = .ok (.int .i64 0) w := by kernel_rfl
theorem keyS (x : ByteArray) (hx : x.size ≤ 20000) : keyOf Tryz.prog 9 (.string x) = some (.string (bytesOf x)) := Go.WideMaps.keyOf_string_mk Tryz.underlying9 (by unfold maxLen; omega)

section
variable {w : World} {B Z K M : Nat} {N : NetM} {n : Nat} {f : Taken} {at_ : Int} {ws : List ByteArray}
theorem TakenAt.put {x : List UInt8} {v : Int} {D : DataW Unit} {w' : World} (hm : IsMap D) (hf : ∀ k, has D (.string k) = (f k).isSome ∧ D.atKey (.string k) (.lit (.int .i64 0)) = .lit (.int .i64 ((f k).getD 0)))
    (h : w'.ownsMap Tryz.prog 9 (plainElem Tryz.prog 3) M (n + 1) (D.put (.string x) (.lit (.int .i64 v)))) : TakenAt w' M (n + 1) (f.set x v) := by
  refine ⟨_, ?_, h, fun k => ?_⟩
  · obtain ⟨es, rfl⟩ := hm
    exact ⟨_, rfl⟩
  · by_cases hk : k = x
    · subst hk
      rw [has_put_same hm (show WideAt.IsKeyLit (.string k) from trivial), atKey_put_same hm (show WideAt.IsKeyLit (.string k) from trivial)]
      simp [Taken.set]
    · have hne : Lit.string k ≠ Lit.string x := fun e => hk (by cases e; rfl)
      rw [has_put_other hne, atKey_put_other hne]
      simp [Taken.set, hk, hf k]
theorem own_map {w w' : World} {B e sz n M : Nat} {v : Value} {xs : List Value} {es : Array MapEntry} {cl : Nat} (h : w.ownsRow B e sz v n xs) (hk : w.heap[M]? = some (.map es cl)) (hb : w.grownBy w' (some M)) : w'.ownsRow B e sz v n xs := by
  refine ⟨h.1, ?_⟩
  rcases h.2 with h2 | ⟨g, cap, cur', h3, h4, h5, h6⟩
  · exact .inl h2
  · refine .inr ⟨g, cap, cur', h3, h4, (hb.block g (Array.getElem?_eq_some_iff.1 h5).1 ?_).trans h5, h6⟩
    intro e; cases e
    rw [hk] at h5; cases h5
/-- The map alone has changed. -/
theorem StV.turned {b l g d t wv : Value} {w' : World} {n' : Nat} {f' : Taken} (h : StV w B Z K M b l g d t wv N n f at_ ws) (hg : w.grownBy w' (some M)) (hn : TakenAt w' M n' f') : St w' B Z K M N n' f' at_ ws ∧ Fr K M w w' := by
  obtain ⟨es, cl, hM⟩ := h.names.block
  have o := h.owns
  refine ⟨⟨b, l, g, d, t, wv, (hg.block K h.lt (fun e => h.ne (by cases e; rfl))).trans h.box, ⟨own_map o.hb hM hg, own_map o.hl hM hg, own_map o.hg hM hg, own_map o.hd hM hg, own_map o.ht hM hg⟩, hn, ?_, h.hBK, h.hBM, h.hKZ, h.hMZ, h.hz⟩, ?_⟩
  · obtain ⟨h1, a, cap, h2, h3, h4, h5⟩ := h.words
    refine ⟨h1, a, cap, h2, h3, h4, ?_⟩
    rcases h5 with h5 | ⟨bw, ow, h6, hZ, h7, h8, h9⟩
    · exact .inl h5
    · refine .inr ⟨bw, ow, h6, hZ, h7, h8, fun j y hj => ?_⟩
      have hc := h9 j y hj
      rw [World.cell?_of_block (hg.block bw (World.block_lt_of_cell? w _ hc) (fun e => h8 (by cases e; rfl)))]
      exact hc
  · exact ⟨hg.os, hg.tape, hg.output, hg.size, fun k hk _ h2 => hg.block k hk (fun e => h2 (by cases e; rfl))⟩
end

set_option maxHeartbeats 800000 in
theorem newName_ok (B Z K M n : Nat) (N : NetM) (f : Taken) (x : ByteArray) (ws : List ByteArray) (at_ cnt most : Int) (w : World) (hs : St w B Z K M N n f at_ (x :: ws)) (hx : x.size ≤ 20000) (hn : n ≤ 10000)
    (hv : nameL (bytesOf x) = true) (hf : (f (bytesOf x)).isSome = false) (hc : cnt < most) :
    Calls Tryz.prog 79 #[.pointer (some ⟨K, 0, none⟩), .int .i64 cnt, .int .i64 most] w fun e w' => e = .returned (.string x) ∧ St w' B Z K M N (n + 1) (f.set (bytesOf x) (-1)) at_ ws ∧ Fr K M w w' := by
  obtain ⟨b, l, g, d, t, wv, hs⟩ := hs
  obtain ⟨bw, ow, cap, hnx, hto⟩ := hs.took
  have hw := hide' (name_ok K bw ow _ cap x at_ w hnx hx hv)
  have HT := hide' hto
  have hkey := keyS x hx
  clear hto hnx hs
  go_enter Tryz.func79, Tryz.ntmps79
  go_wp2_with (first
    | (go_at_call 64; refine hw.out.mono ?_; rintro e w1 ⟨rfl, ht⟩; obtain ⟨⟨b1, l1, g1, d1, t1, wv1, h1⟩, hb1⟩ := HT.out w1 ht; obtain ⟨D, hm, hown, hD⟩ := h1.names; have c6 := h1.cell 6 rfl)
    | (at_lookup; refine wpList_lookup_own_ok_int _ rfl _ _ 97 rfl 9 3 .i64 lawS Tryz.underlying97 Tryz.underlying3 (zeroI _) M n D rfl hown _ _ rfl hkey ?_; intro c hat hwc)
    | (go_at_call_of 51 (Value.bool true); refine (insist_yes _ _ _).mono ?_; rintro e w3 ⟨rfl, hw'⟩; obtain rfl := hw'.symm)
    | (at_mapUpdate; refine wpList_mapUpdate_own _ rfl _ _ _ 97 rfl 9 3 lawS Tryz.underlying97 _ M n D rfl hown (by unfold maxLen; omega) _ _ _ rfl rfl hkey _ [] (plainElem_int Tryz.underlying3 (by decide)) ?_; intro w2 hown2 hg2)
    | go_in)
  go_ret
  obtain ⟨hs2, hb2⟩ := h1.turned hg2 (TakenAt.put hm hD hown2)
  exact ⟨rfl, hs2, hb1.trans hb2⟩

set_option maxHeartbeats 800000 in
theorem newName_bad (B Z K M n : Nat) (N : NetM) (f : Taken) (x : ByteArray) (ws : List ByteArray) (at_ cnt most : Int) (w : World) (hs : St w B Z K M N n f at_ (x :: ws)) (hx : x.size ≤ 20000)
    (hv : nameL (bytesOf x) = false) :
    Calls Tryz.prog 79 #[.pointer (some ⟨K, 0, none⟩), .int .i64 cnt, .int .i64 most] w fun e w' => e = gaveUp 5 at_ ∧ Fr K M w w' := by
  obtain ⟨b, l, g, d, t, wv, hs⟩ := hs
  obtain ⟨bw, ow, cap, hnx, hto⟩ := hs.took
  have hw := hide' (name_no K bw ow _ cap x at_ w hnx hx hv)
  have HT := hide' hto
  clear hto hnx hs
  go_enter Tryz.func79, Tryz.ntmps79
  go_wp2_with (go_at_call 64; refine hw.out.mono ?_; rintro e w1 ⟨rfl, ht⟩)
  exact ⟨rfl, rfl, (HT.out w1 ht).2⟩

set_option maxHeartbeats 800000 in
theorem newName_twice (B Z K M n : Nat) (N : NetM) (f : Taken) (x : ByteArray) (ws : List ByteArray) (at_ cnt most : Int) (w : World) (hs : St w B Z K M N n f at_ (x :: ws)) (hx : x.size ≤ 20000)
    (hv : nameL (bytesOf x) = true) (hf : (f (bytesOf x)).isSome = true) :
    Calls Tryz.prog 79 #[.pointer (some ⟨K, 0, none⟩), .int .i64 cnt, .int .i64 most] w fun e w' => e = gaveUp 6 at_ ∧ Fr K M w w' := by
  obtain ⟨b, l, g, d, t, wv, hs⟩ := hs
  obtain ⟨bw, ow, cap, hnx, hto⟩ := hs.took
  have hw := hide' (name_ok K bw ow _ cap x at_ w hnx hx hv)
  have HT := hide' hto
  have hkey := keyS x hx
  clear hto hnx hs
  go_enter Tryz.func79, Tryz.ntmps79
  go_wp2_with (first
    | (go_at_call 64; refine hw.out.mono ?_; rintro e w1 ⟨rfl, ht⟩; obtain ⟨⟨b1, l1, g1, d1, t1, wv1, h1⟩, hb1⟩ := HT.out w1 ht; obtain ⟨D, hm, hown, hD⟩ := h1.names; have c6 := h1.cell 6 rfl)
    | (at_lookup; refine wpList_lookup_own_ok_int _ rfl _ _ 97 rfl 9 3 .i64 lawS Tryz.underlying97 Tryz.underlying3 (zeroI _) M n D rfl hown _ _ rfl hkey ?_; intro c hat hwc)
    | (go_at_call_of 51 (Value.bool false); refine (insist_no _ _ at_ _ (h1.cell 7 rfl)).mono ?_; rintro e w3 ⟨rfl, hw'⟩; obtain rfl := hw'.symm)
    | go_in)
  exact ⟨rfl, rfl, hb1⟩

set_option maxHeartbeats 800000 in
theorem newName_full (B Z K M n : Nat) (N : NetM) (f : Taken) (x : ByteArray) (ws : List ByteArray) (at_ cnt most : Int) (w : World) (hs : St w B Z K M N n f at_ (x :: ws)) (hx : x.size ≤ 20000)
    (hv : nameL (bytesOf x) = true) (hf : (f (bytesOf x)).isSome = false) (hc : ¬ cnt < most) :
    Calls Tryz.prog 79 #[.pointer (some ⟨K, 0, none⟩), .int .i64 cnt, .int .i64 most] w fun e w' => e = gaveUp 17 at_ ∧ Fr K M w w' := by
  obtain ⟨b, l, g, d, t, wv, hs⟩ := hs
  obtain ⟨bw, ow, cap, hnx, hto⟩ := hs.took
  have hw := hide' (name_ok K bw ow _ cap x at_ w hnx hx hv)
  have HT := hide' hto
  have hkey := keyS x hx
  have hd : decide (cnt < most) = false := decide_eq_false hc
  clear hto hnx hs
  go_enter Tryz.func79, Tryz.ntmps79
  go_wp2_with (first
    | (go_at_call 64; refine hw.out.mono ?_; rintro e w1 ⟨rfl, ht⟩; obtain ⟨⟨b1, l1, g1, d1, t1, wv1, h1⟩, hb1⟩ := HT.out w1 ht; obtain ⟨D, hm, hown, hD⟩ := h1.names; have c6 := h1.cell 6 rfl)
    | (at_lookup; refine wpList_lookup_own_ok_int _ rfl _ _ 97 rfl 9 3 .i64 lawS Tryz.underlying97 Tryz.underlying3 (zeroI _) M n D rfl hown _ _ rfl hkey ?_; intro c hat hwc)
    | (go_at_call_of 51 (Value.bool true); refine (insist_yes _ _ _).mono ?_; rintro e w3 ⟨rfl, hw'⟩; obtain rfl := hw'.symm)
    | (go_at_call_of 51 (Value.bool false); refine (insist_no _ _ at_ _ (h1.cell 7 rfl)).mono ?_; rintro e w4 ⟨rfl, hw'⟩; obtain rfl := hw'.symm)
    | go_in)
  exact ⟨rfl, rfl, hb1⟩
end Go.Proofs.YtpbalclhdhjnoaaGreatDoor
namespace Go.Proofs.YtpbalclhdhjnoaaGreatDoor
open Go.RowKit Go.Maps

theorem TakenAt.look {w : World} {M n : Nat} {f : Taken} (h : TakenAt w M n f) (x : ByteArray) (hx : x.size ≤ 20000) :
    (Instr.lookup 97 (.map (some M)) (.string x) true).run Tryz.prog w = .ok (.tuple #[.int .i64 ((f (bytesOf x)).getD 0), .bool (f (bytesOf x)).isSome]) w := by
  obtain ⟨D, _, hown, hD⟩ := h
  obtain ⟨v, ps, hrun, hv⟩ := hown.look_ok lawS Tryz.underlying97 (zeroI w) (plainElem_int Tryz.underlying3 (by decide)) (keyS x hx)
  obtain ⟨c, rfl, hc, _⟩ := plainElem_int_inv Tryz.underlying3 hv
  have h1 := congrArg Prod.fst hc
  simp only [(hD (bytesOf x)).2] at h1
  cases h1
  rw [hrun, (hD (bytesOf x)).1]
theorem StV.drew {w : World} {B Z K M : Nat} {b l g d t wv : Value} {N : NetM} {n : Nat} {f : Taken} {at_ : Int} {ws : List ByteArray} (hs : StV w B Z K M b l g d t wv N n f at_ ws) : StV w.drew B Z K M b l g d t wv N n f at_ ws :=
  ⟨hs.box, ⟨hs.owns.hb, hs.owns.hl, hs.owns.hg, hs.owns.hd, hs.owns.ht⟩, hs.names, hs.words, hs.hBK, hs.hBM, hs.hKZ, hs.hMZ, hs.hz⟩

set_option maxHeartbeats 800000 in
set_option maxRecDepth 100000 in
theorem place_ok (B Z K M n : Nat) (N : NetM) (f : Taken) (x : ByteArray) (ws : List ByteArray) (at_ p : Int) (w : World) (hs : St w B Z K M N n f at_ (x :: ws)) (hx : x.size ≤ 20000)
    (hp : f (bytesOf x) = some p) (hp1 : p ≠ -1) :
    Calls Tryz.prog 82 #[.pointer (some ⟨K, 0, none⟩)] w fun e w' => e = .returned (.int .i64 p) ∧ St w' B Z K M N n f at_ ws ∧ Fr K M w w' := by
  obtain ⟨b, l, g, d, t, wv, hs⟩ := hs
  obtain ⟨bw, ow, cap, hnx, hto⟩ := hs.drew.took
  have hw := hide' hnx.word
  have HT := hide' hto
  have HL : Hid (∀ W, TakenAt W M n f → (Instr.lookup 97 (.map (some M)) (.string x) true).run Tryz.prog W = .ok (.tuple #[.int .i64 p, .bool true]) W) := fun W hW => by have := hW.look x hx; rw [hp] at this; exact this
  have c60 : w.cell? ⟨K, 6, none⟩ = some (.map (some M)) := hs.cell 6 rfl
  have hne : (p != -1) = true := by simpa using hp1
  clear hto hnx hs hp
  go_enter Tryz.func82, Tryz.ntmps82
  go_wp2_with fail
  go_region_held3 (fun W => W.cell? ⟨K, 6, none⟩ = some (.map (some M)))
    (first | exact c60 | exact c61)
    (first | (go_at_call 62; refine hw.out.mono ?_; rintro e w1 ⟨rfl, ht⟩; obtain ⟨⟨b1, l1, g1, d1, t1, wv1, h1⟩, hb1⟩ := HT.out w1 ⟨w1, ht, Below.refl _ _⟩; have hrun := HL.out w1 h1.names; have c61 : w1.cell? ⟨K, 6, none⟩ = some (.map (some M)) := h1.cell 6 rfl))
  go_wp2_with (go_at_call_of 51 (Value.bool true); refine (insist_yes _ _ _).mono ?_; rintro e w3 ⟨rfl, hw'⟩; obtain rfl := hw'.symm)
  go_ret
  exact ⟨rfl, ⟨b1, l1, g1, d1, t1, wv1, h1⟩, hb1.ofDrew⟩

/-- A word that names no bus. -/
def noPlace (f : Taken) (x : ByteArray) : Prop := f (bytesOf x) = none ∨ f (bytesOf x) = some (-1)
set_option maxHeartbeats 800000 in
set_option maxRecDepth 100000 in
theorem place_no (B Z K M n : Nat) (N : NetM) (f : Taken) (x : ByteArray) (ws : List ByteArray) (at_ : Int) (w : World) (hs : St w B Z K M N n f at_ (x :: ws)) (hx : x.size ≤ 20000) (hp : noPlace f x) :
    Calls Tryz.prog 82 #[.pointer (some ⟨K, 0, none⟩)] w fun e w' => e = gaveUp 9 at_ ∧ Fr K M w w' := by
  obtain ⟨b, l, g, d, t, wv, hs⟩ := hs
  obtain ⟨bw, ow, cap, hnx, hto⟩ := hs.drew.took
  have hw := hide' hnx.word
  have HT := hide' hto
  have c60 : w.cell? ⟨K, 6, none⟩ = some (.map (some M)) := hs.cell 6 rfl
  rcases hp with hp | hp
  · have HL : Hid (∀ W, TakenAt W M n f → (Instr.lookup 97 (.map (some M)) (.string x) true).run Tryz.prog W = .ok (.tuple #[.int .i64 0, .bool false]) W) := fun W hW => by have := hW.look x hx; rw [hp] at this; exact this
    clear hto hnx hs hp
    go_enter Tryz.func82, Tryz.ntmps82
    go_wp2_with fail
    go_region_held3 (fun W => W.cell? ⟨K, 6, none⟩ = some (.map (some M)))
      (first | exact c60 | exact c61)
      (first | (go_at_call 62; refine hw.out.mono ?_; rintro e w1 ⟨rfl, ht⟩; obtain ⟨⟨b1, l1, g1, d1, t1, wv1, h1⟩, hb1⟩ := HT.out w1 ⟨w1, ht, Below.refl _ _⟩; have hrun := HL.out w1 h1.names; have c61 : w1.cell? ⟨K, 6, none⟩ = some (.map (some M)) := h1.cell 6 rfl))
    go_wp2_with (go_at_call_of 51 (Value.bool false); refine (insist_no _ _ at_ _ (h1.cell 7 rfl)).mono ?_; rintro e w3 ⟨rfl, hw'⟩; obtain rfl := hw'.symm)
    exact ⟨rfl, rfl, hb1.ofDrew⟩
  · have HL : Hid (∀ W, TakenAt W M n f → (Instr.lookup 97 (.map (some M)) (.string x) true).run Tryz.prog W = .ok (.tuple #[.int .i64 (-1), .bool true]) W) := fun W hW => by have := hW.look x hx; rw [hp] at this; exact this
    clear hto hnx hs hp
    go_enter Tryz.func82, Tryz.ntmps82
    go_wp2_with fail
    go_region_held3 (fun W => W.cell? ⟨K, 6, none⟩ = some (.map (some M)))
      (first | exact c60 | exact c61)
      (first | (go_at_call 62; refine hw.out.mono ?_; rintro e w1 ⟨rfl, ht⟩; obtain ⟨⟨b1, l1, g1, d1, t1, wv1, h1⟩, hb1⟩ := HT.out w1 ⟨w1, ht, Below.refl _ _⟩; have hrun := HL.out w1 h1.names; have c61 : w1.cell? ⟨K, 6, none⟩ = some (.map (some M)) := h1.cell 6 rfl))
    go_wp2_with (go_at_call_of 51 (Value.bool false); refine (insist_no _ _ at_ _ (h1.cell 7 rfl)).mono ?_; rintro e w3 ⟨rfl, hw'⟩; obtain rfl := hw'.symm)
    exact ⟨rfl, rfl, hb1.ofDrew⟩

set_option maxHeartbeats 800000 in
theorem ends_first (B Z K M n : Nat) (N : NetM) (f : Taken) (x : ByteArray) (ws : List ByteArray) (at_ : Int) (w : World) (hs : St w B Z K M N n f at_ (x :: ws)) (hx : x.size ≤ 20000) (hp : noPlace f x) :
    Calls Tryz.prog 80 #[.pointer (some ⟨K, 0, none⟩)] w fun e w' => e = gaveUp 9 at_ ∧ Fr K M w w' := by
  have hw := hide' (place_no B Z K M n N f x ws at_ w hs hx hp)
  clear hs hp
  go_enter Tryz.func80, Tryz.ntmps80
  go_wp2_with (go_at_call 82; refine hw.out.mono ?_; rintro e w1 ⟨rfl, hb1⟩)
  exact ⟨rfl, rfl, hb1⟩
set_option maxHeartbeats 800000 in
theorem ends_second (B Z K M n : Nat) (N : NetM) (f : Taken) (x y : ByteArray) (ws : List ByteArray) (at_ p : Int) (w : World) (hs : St w B Z K M N n f at_ (x :: y :: ws)) (hx : x.size ≤ 20000) (hy : y.size ≤ 20000)
    (hp : f (bytesOf x) = some p) (hp1 : p ≠ -1) (hq : noPlace f y) :
    Calls Tryz.prog 80 #[.pointer (some ⟨K, 0, none⟩)] w fun e w' => e = gaveUp 9 at_ ∧ Fr K M w w' := by
  have hw := hide' (place_ok B Z K M n N f x (y :: ws) at_ p w hs hx hp hp1)
  have HQ := hide' hq
  clear hs hp hq
  go_enter Tryz.func80, Tryz.ntmps80
  go_wp2_with (first | (go_at_call 82; refine hw.out.mono ?_; rintro e w1 ⟨rfl, h1, hb1⟩; clear hw) | (go_at_call 82; refine (place_no B Z K M n N f y ws at_ w1 h1 hy HQ.out).mono ?_; rintro e w2 ⟨rfl, hb2⟩))
  exact ⟨rfl, rfl, hb1.trans hb2⟩
set_option maxHeartbeats 800000 in
theorem ends_one (B Z K M n : Nat) (N : NetM) (f : Taken) (x y : ByteArray) (ws : List ByteArray) (at_ p : Int) (w : World) (hs : St w B Z K M N n f at_ (x :: y :: ws)) (hx : x.size ≤ 20000) (hy : y.size ≤ 20000)
    (hp : f (bytesOf x) = some p) (hp1 : p ≠ -1) (hq : f (bytesOf y) = some p) :
    Calls Tryz.prog 80 #[.pointer (some ⟨K, 0, none⟩)] w fun e w' => e = gaveUp 7 at_ ∧ Fr K M w w' := by
  have hw := hide' (place_ok B Z K M n N f x (y :: ws) at_ p w hs hx hp hp1)
  have HQ := hide' hq
  clear hs hp hq
  go_enter Tryz.func80, Tryz.ntmps80
  go_wp2_with (first | (go_at_call 82; refine hw.out.mono ?_; rintro e w1 ⟨rfl, h1, hb1⟩; clear hw) | (go_at_call 82; refine (place_ok B Z K M n N f y ws at_ p w1 h1 hy HQ.out hp1).mono ?_; rintro e w2 ⟨rfl, ⟨b2, l2, g2, d2, t2, wv2, h2⟩, hb2⟩) | (go_at_call_of 51 (Value.bool false); refine (insist_no _ _ at_ _ (h2.cell 7 rfl)).mono ?_; rintro e w3 ⟨rfl, hw'⟩; obtain rfl := hw'.symm))
  exact ⟨rfl, rfl, hb1.trans hb2⟩
set_option maxHeartbeats 800000 in
theorem ends_ok (B Z K M n : Nat) (N : NetM) (f : Taken) (x y : ByteArray) (ws : List ByteArray) (at_ p q : Int) (w : World) (hs : St w B Z K M N n f at_ (x :: y :: ws)) (hx : x.size ≤ 20000) (hy : y.size ≤ 20000)
    (hp : f (bytesOf x) = some p) (hp1 : p ≠ -1) (hq : f (bytesOf y) = some q) (hq1 : q ≠ -1) (hne : p ≠ q) :
    Calls Tryz.prog 80 #[.pointer (some ⟨K, 0, none⟩)] w fun e w' => e = .returned (.tuple #[.int .i64 p, .int .i64 q]) ∧ St w' B Z K M N n f at_ ws ∧ Fr K M w w' := by
  have hw := hide' (place_ok B Z K M n N f x (y :: ws) at_ p w hs hx hp hp1)
  have HQ := hide' hq
  have hd : (p != q) = true := by simpa using hne
  clear hs hp hq
  go_enter Tryz.func80, Tryz.ntmps80
  go_wp2_with (first | (go_at_call 82; refine hw.out.mono ?_; rintro e w1 ⟨rfl, h1, hb1⟩; clear hw) | (go_at_call 82; refine (place_ok B Z K M n N f y ws at_ q w1 h1 hy HQ.out hq1).mono ?_; rintro e w2 ⟨rfl, h2, hb2⟩) | (go_at_call_of 51 (Value.bool true); refine (insist_yes _ _ _).mono ?_; rintro e w3 ⟨rfl, hw'⟩; obtain rfl := hw'.symm))
  go_ret2
  exact ⟨rfl, h2, hb1.trans hb2⟩
end Go.Proofs.YtpbalclhdhjnoaaGreatDoor
namespace Go.Proofs.YtpbalclhdhjnoaaGreatDoor
open Go.RowKit Go.Maps

section
variable {w w2 : World} {B Z K M : Nat} {b l g d t wv v : Value} {N : NetM} {n e sz m : Nat} {f : Taken} {at_ : Int} {xs : List Value} {ws : List ByteArray}
/-- What an append to a list leaves as it was. -/
theorem StV.grown (h : StV w B Z K M b l g d t wv N n f at_ ws) (o : Obj) (hv : w.ownsRow B e sz v m xs) (he : e ≠ 99) (hg : (w.alloc o).grownBy w2 v.ownBlock) :
    w2.heap[K]? = w.heap[K]? ∧ TakenAt w2 M n f ∧ Bel B w w2 ∧ (∀ e' sz' v' m' xs', e' ≠ e → w.ownsRow B e' sz' v' m' xs' → w2.ownsRow B e' sz' v' m' xs') := by
  have hblk : ∀ k, k < w.heap.size → some k ≠ v.ownBlock → w2.heap[k]? = w.heap[k]? := fun k hk hne => (hg.block k (by rw [World.size_alloc]; omega) hne).trans (((Below.refl _ w).alloc (Nat.le_refl _) o).block k hk)
  have hrow : ∀ k, some k = v.ownBlock → B ≤ k ∧ ∃ cur, w.heap[k]? = some (.cells cur e (0, 0)) := by
    intro k hk
    rcases hv.2 with ⟨rfl, _⟩ | ⟨g', cap, cur, rfl, h4, h5, _⟩
    · simp [Value.ownBlock] at hk
    · simp only [Value.ownBlock, Option.some.injEq] at hk
      subst hk
      exact ⟨h4, cur, h5⟩
  refine ⟨hblk K h.lt ?_, h.names.of_block (hblk M h.names.ltM ?_), ⟨⟨hg.os, hg.tape, hg.output, ?_, fun k hk => hblk k (by have := h.lt; have := h.hBK; omega) ?_⟩, fun k o' hk ho => (hblk k (Array.getElem?_eq_some_iff.1 hk).1 fun hk' => ?_).trans hk⟩, ?_⟩
  · intro hk
    obtain ⟨_, cur, hc⟩ := hrow K hk
    rw [h.box] at hc; cases hc; exact he rfl
  · intro hk
    obtain ⟨_, cur, hc⟩ := hrow M hk
    obtain ⟨es, cl, hM⟩ := h.names.block
    rw [hM] at hc; cases hc
  · have := hg.size; rw [World.size_alloc] at this; omega
  · intro hk'
    have := (hrow k hk').1
    omega
  · obtain ⟨_, cur, hc⟩ := hrow k hk'
    rw [hk] at hc; cases hc; cases ho
  · intro e' sz' v' m' xs' hne h'
    refine ⟨h'.1, ?_⟩
    rcases h'.2 with h2 | ⟨g', cap, cur', h3, h4, h5, h6⟩
    · exact .inl h2
    · refine .inr ⟨g', cap, cur', h3, h4, (hblk g' (Array.getElem?_eq_some_iff.1 h5).1 ?_).trans h5, h6⟩
      intro hk
      obtain ⟨_, cur, hc⟩ := hrow g' hk
      rw [h5] at hc; cases hc; exact hne rfl
/-- A field of the reader's struct is stored. -/
theorem set_box {cur : Array Value} (hK : w2.heap[K]? = some (.cells cur 99 (0, 0))) (j : Nat) (u : Value) : (w2.setCell ⟨K, j, none⟩ u).heap[K]? = some (.cells (cur.setIfInBounds j u) 99 (0, 0)) := by
  simp only [World.setCell, Array.getElem?_modify, if_true, hK, Option.map_some]
  rfl
theorem set_below (hBK : B ≤ K) (j : Nat) (u : Value) : Bel B w2 (w2.setCell ⟨K, j, none⟩ u) :=
  ⟨⟨rfl, rfl, rfl, by simp [World.setCell], fun k hk => Below.heap_setCell w2 _ _ k (by show k ≠ K; omega)⟩, rest_set w2 _ u⟩
theorem set_own {cur : Array Value} (hK : w2.heap[K]? = some (.cells cur 99 (0, 0))) (h : w2.ownsRow B e sz v m xs) (he : e ≠ 99) (j : Nat) (u : Value) : (w2.setCell ⟨K, j, none⟩ u).ownsRow B e sz v m xs :=
  own_block h hK he fun k _ hne => Below.heap_setCell w2 _ _ k hne
theorem set_taken {cur : Array Value} (hK : w2.heap[K]? = some (.cells cur 99 (0, 0))) (h : TakenAt w2 M n f) (j : Nat) (u : Value) : TakenAt (w2.setCell ⟨K, j, none⟩ u) M n f := by
  refine h.of_block (Below.heap_setCell w2 _ _ M ?_)
  rintro rfl
  obtain ⟨es, cl, hM⟩ := h.block
  rw [hM] at hK; cases hK
theorem left_nil (W : World) (Z' : Nat) (h : LeftAt w Z K M wv []) : LeftAt W Z' K M wv [] := by
  obtain ⟨h1, a, cap, h2, h3, h4, _⟩ := h
  exact ⟨h1, a, cap, h2, h3, h4, .inl rfl⟩
theorem StV.fz (h : StV w B Z K M b l g d t wv N n f at_ ws) (e : w2.heap[K]? = w.heap[K]?) (j : Nat) : w2.frozen? ⟨K, j, none⟩ = false := by
  simp [World.frozen?, e, h.box]
theorem StV.cl (h : StV w B Z K M b l g d t wv N n f at_ ws) (e : w2.heap[K]? = w.heap[K]?) (j : Nat) {u : Value} (hv : (#[.string N.name, b, l, g, d, t, .map (some M), .int .i64 at_, wv] : Array Value)[j]? = some u) : w2.cell? ⟨K, j, none⟩ = some u := by
  simp only [World.cell?, e, h.box]
  exact hv
theorem own_lt (hv : w.ownsRow B e sz v m xs) {k : Nat} (hk : v.ownBlock = some k) : k < w.heap.size := by
  rcases hv.2 with ⟨rfl, _⟩ | ⟨g', cap, cur, rfl, h4, h5, _⟩
  · simp [Value.ownBlock] at hk
  · simp only [Value.ownBlock, Option.some.injEq] at hk
    subst hk
    exact (Array.getElem?_eq_some_iff.1 h5).1
theorem StV.make (box : w.heap[K]? = some (.cells #[.string N.name, b, l, g, d, t, .map (some M), .int .i64 at_, wv] 99 (0, 0))) (o : Owns w B b l g d t N) (names : TakenAt w M n f) (words : LeftAt w w.heap.size K M wv ws) (hBK : B ≤ K) (hBM : B ≤ M) : StV w B w.heap.size K M b l g d t wv N n f at_ ws := by
  refine ⟨box, o, names, words, hBK, hBM, (Array.getElem?_eq_some_iff.1 box).1, names.ltM, fun v hv k hk => ?_⟩
  simp only [List.mem_cons, List.not_mem_nil, or_false] at hv
  rcases hv with rfl | rfl | rfl | rfl | rfl
  · exact own_lt o.hb hk
  · exact own_lt o.hl hk
  · exact own_lt o.hg hk
  · exact own_lt o.hd hk
  · exact own_lt o.ht hk
theorem wf16 : ∀ k : Nat, k < 16 → (Lit.int .i64 (k : Int)).wf = true := by decide
end

set_option maxHeartbeats 800000 in
theorem bus_err (B Z K M n : Nat) (N : NetM) (f : Taken) (ws : List ByteArray) (at_ c : Int) (w : World) (hs : St w B Z K M N n f at_ ws)
    (hc : Calls Tryz.prog 79 #[.pointer (some ⟨K, 0, none⟩), .int .i64 N.buses.length, .int .i64 16] w fun e w' => e = gaveUp c at_ ∧ Fr K M w w') :
    Calls Tryz.prog 65 #[.pointer (some ⟨K, 0, none⟩)] w fun e w' => e = gaveUp c at_ ∧ Bel B w w' := by
  obtain ⟨b, l, g, d, t, wv, hs⟩ := hs
  obtain ⟨ab, cb, rfl⟩ := own_slice hs.owns.hb
  have c1 : w.cell? ⟨K, 1, none⟩ = some (.slice ab N.buses.length cb) := hs.cell 1 rfl
  have hw := hide' hc
  have HS := hide' hs
  clear hs hc
  go_enter Tryz.func65, Tryz.ntmps65
  go_wp2_with (go_at_call 79; refine hw.out.mono ?_; rintro e w1 ⟨rfl, hb1⟩)
  exact ⟨rfl, rfl, HS.out.fr hb1⟩

set_option maxHeartbeats 800000 in
set_option maxRecDepth 100000 in
theorem bus_ok (B Z K M n : Nat) (N : NetM) (f : Taken) (x : ByteArray) (at_ : Int) (w : World) (hs : St w B Z K M N n f at_ [x]) (hx : x.size ≤ 20000) (hn : n ≤ 5000)
    (hv : nameL (bytesOf x) = true) (hf : (f (bytesOf x)).isSome = false) (hl : N.buses.length < 16) :
    Calls Tryz.prog 65 #[.pointer (some ⟨K, 0, none⟩)] w fun e w' => e = .returned (.tuple #[]) ∧ St w' B w'.heap.size K M { N with buses := N.buses ++ [x] } (n + 2) ((f.set (bytesOf x) (-1)).set (bytesOf x) N.buses.length) at_ [] ∧ Bel B w w' := by
  have hw := hide' (newName_ok B Z K M n N f x [] at_ N.buses.length 16 w hs hx (by omega) hv hf (by omega))
  obtain ⟨i0, hi, hz0, hz1, hz2⟩ := info_parts Tryz.info9
  obtain ⟨b, l, g, d, t, wv, hs⟩ := hs
  obtain ⟨ab, cb, rfl⟩ := own_slice hs.owns.hb
  have c1 : w.cell? ⟨K, 1, none⟩ = some (.slice ab N.buses.length cb) := hs.cell 1 rfl
  have hkey := keyS x hx
  have hBw : B ≤ w.heap.size := by have := hs.lt; have := hs.hBK; omega
  have hwf : (Lit.int .i64 (N.buses.length : Int)).wf = true := wf16 _ hl
  have HS := hide' hs
  clear hs
  go_enter Tryz.func65, Tryz.ntmps65
  go_wp2_with (first
    | (go_at_call 79; refine hw.out.mono ?_; rintro e w1 ⟨rfl, ⟨b1, l1, g1, d1, t1, wv1, h1⟩, hb1⟩; obtain ⟨D, hm, hown, hD⟩ := h1.names; have c6 : w1.cell? ⟨K, 6, none⟩ = some (.map (some M)) := h1.cell 6 rfl)
    | (at_mapUpdate; refine wpList_mapUpdate_own _ rfl _ _ _ 97 rfl 9 3 lawS Tryz.underlying97 _ M (n + 1) D rfl hown (by unfold maxLen; omega) _ _ _ rfl rfl hkey _ [] (plainElem_int Tryz.underlying3 hwf) ?_; intro w2 hown2 hg2; obtain ⟨⟨b2, l2, g2, d2, t2, wv2, h2⟩, hb2⟩ := h1.turned hg2 (TakenAt.put hm hD hown2); obtain ⟨ab2, cb2, rfl⟩ := own_slice h2.owns.hb; have c12 : w2.cell? ⟨K, 1, none⟩ = some (.slice ab2 N.buses.length cb2) := h2.cell 1 rfl)
    | (at_builtin; refine wpList_append_own _ rfl _ _ 22 rfl B 9 i0 (.string ⟨#[]⟩) 1 16 Tryz.underlying22 hi hz0 hz1 hz2 rfl (by decide) _ _ _ rfl (h2.owns.hb.alloc _) ⟨w2.heap.size, 0, none⟩ 1 1 [.string x] rfl rfl (cell_one_new _ _ _) (one_cell rfl) (by unfold maxLen; omega) (by omega) (by have := hb1.size; have := hb2.size; rw [World.size_alloc]; omega) ?_; intro v' w3 hown' hgrow _; obtain ⟨a', c', rfl⟩ := own_slice hown'; have hgr := hide' (h2.grown _ h2.owns.hb (by decide) hgrow); have f13 := h2.fz hgr.out.1 1; have c13 : w3.cell? ⟨K, 1, none⟩ = some (.slice ab2 N.buses.length cb2) := h2.cl hgr.out.1 1 rfl)
    | go_in)
  go_end0
  obtain ⟨g1', g2', g3', g4'⟩ := hgr.out
  have hK := g1'.trans h2.box
  refine ⟨rfl, ⟨_, l2, g2, d2, t2, wv2, StV.make (set_box hK 1 _) ⟨?_, set_own hK (g4' _ _ _ _ _ (by decide) h2.owns.hl) (by decide) _ _, set_own hK (g4' _ _ _ _ _ (by decide) h2.owns.hg) (by decide) _ _, set_own hK (g4' _ _ _ _ _ (by decide) h2.owns.hd) (by decide) _ _, set_own hK (g4' _ _ _ _ _ (by decide) h2.owns.ht) (by decide) _ _⟩ (set_taken hK g2' _ _) (left_nil _ _ h2.words) h2.hBK h2.hBM⟩, (HS.out.fr (hb1.trans hb2)).trans (g3'.trans (set_below h2.hBK _ _))⟩
  have := set_own hK hown' (by decide) 1 (.slice a' (N.buses.length + 1) c')
  rw [map_snoc] at this
  simpa using this
end Go.Proofs.YtpbalclhdhjnoaaGreatDoor
namespace Go.Proofs.YtpbalclhdhjnoaaGreatDoor
open Go.RowKit Go.Maps

section
variable {w w' : World} {B Z K M : Nat} {b l g d t wv v : Value} {N : NetM} {n e sz m : Nat} {f : Taken} {at_ lo hi : Int} {xs : List Value} {x : ByteArray} {ws : List ByteArray}
theorem own_keep (h : w.ownsRow B e sz v m xs) (hz : ∀ k, v.ownBlock = some k → k < Z) (hb : ∀ k, k < Z → w'.heap[k]? = w.heap[k]?) : w'.ownsRow B e sz v m xs := by
  refine ⟨h.1, ?_⟩
  rcases h.2 with h2 | ⟨g, cap, cur', h3, h4, h5, h6⟩
  · exact .inl h2
  · exact .inr ⟨g, cap, cur', h3, h4, (hb g (hz g (by rw [h3]; rfl))).trans h5, h6⟩
/-- The state hangs on the blocks under Z alone. -/
theorem StV.keep (h : StV w B Z K M b l g d t wv N n f at_ ws) (hb : ∀ k, k < Z → w'.heap[k]? = w.heap[k]?) : StV w' B Z K M b l g d t wv N n f at_ ws := by
  have o := h.owns
  refine ⟨(hb K h.hKZ).trans h.box, ⟨own_keep o.hb (h.hz b (by simp)) hb, own_keep o.hl (h.hz l (by simp)) hb, own_keep o.hg (h.hz g (by simp)) hb, own_keep o.hd (h.hz d (by simp)) hb, own_keep o.ht (h.hz t (by simp)) hb⟩, h.names.of_block (hb M h.hMZ), ?_, h.hBK, h.hBM, h.hKZ, h.hMZ, h.hz⟩
  obtain ⟨h1, a, cap, h2, h3, h4, h5⟩ := h.words
  refine ⟨h1, a, cap, h2, h3, h4, ?_⟩
  rcases h5 with h5 | ⟨bw, ow, h6, hZ, h7, h8, h9⟩
  · exact .inl h5
  · refine .inr ⟨bw, ow, h6, hZ, h7, h8, fun j y hj => ?_⟩
    rw [World.cell?_of_block (hb bw hZ)]
    exact h9 j y hj
theorem St.keep (h : St w B Z K M N n f at_ ws) (hb : ∀ k, k < Z → w'.heap[k]? = w.heap[k]?) : St w' B Z K M N n f at_ ws := by
  obtain ⟨b, l, g, d, t, wv, h⟩ := h
  exact ⟨b, l, g, d, t, wv, h.keep hb⟩
theorem St.alloc (h : St w B Z K M N n f at_ ws) (hZ : Z ≤ w.heap.size) (o : Obj) : St (w.alloc o) B Z K M N n f at_ ws := h.keep fun k hk => Below.heap_alloc w o k (by omega)
theorem St.set (h : St w B Z K M N n f at_ ws) {L : Nat} (hL : Z ≤ L) (j : Nat) (u : Value) : St (w.setCell ⟨L, j, none⟩ u) B Z K M N n f at_ ws := h.keep fun k hk => Below.heap_setCell w _ _ k (by show k ≠ L; omega)
theorem St.ltK (h : St w B Z K M N n f at_ ws) : K < Z := by
  obtain ⟨b, l, g, d, t, wv, h⟩ := h
  exact h.hKZ
theorem St.ltM (h : St w B Z K M N n f at_ ws) : M < Z := by
  obtain ⟨b, l, g, d, t, wv, h⟩ := h
  exact h.hMZ

theorem num_form (h : St w B Z K M N n f at_ (x :: ws)) (hx : x.size ≤ 20000) (hv : numL (bytesOf x) < 0) :
    Calls Tryz.prog 81 #[.pointer (some ⟨K, 0, none⟩), .int .i64 lo, .int .i64 hi] w fun e w' => e = gaveUp 1 at_ ∧ Fr K M w w' := by
  obtain ⟨b, l, g, d, t, wv, h⟩ := h
  obtain ⟨bw, ow, cap, hnx, hto⟩ := h.took
  refine (number_form K bw ow _ cap x at_ lo hi w hnx hx hv).mono ?_
  rintro e w' ⟨rfl, ht⟩
  exact ⟨rfl, (hto w' ht).2⟩
theorem num_range (h : St w B Z K M N n f at_ (x :: ws)) (hx : x.size ≤ 20000) (hv : ¬ numL (bytesOf x) < 0) (hr : numL (bytesOf x) < lo ∨ hi < numL (bytesOf x)) :
    Calls Tryz.prog 81 #[.pointer (some ⟨K, 0, none⟩), .int .i64 lo, .int .i64 hi] w fun e w' => e = gaveUp 4 at_ ∧ Fr K M w w' := by
  obtain ⟨b, l, g, d, t, wv, h⟩ := h
  obtain ⟨bw, ow, cap, hnx, hto⟩ := h.took
  refine (number_range K bw ow _ cap x at_ lo hi w hnx hx hv hr).mono ?_
  rintro e w' ⟨rfl, ht⟩
  exact ⟨rfl, (hto w' ht).2⟩
theorem num_ok (h : St w B Z K M N n f at_ (x :: ws)) (hx : x.size ≤ 20000) (hv : ¬ numL (bytesOf x) < 0) (hr : ¬ (numL (bytesOf x) < lo ∨ hi < numL (bytesOf x))) :
    Calls Tryz.prog 81 #[.pointer (some ⟨K, 0, none⟩), .int .i64 lo, .int .i64 hi] w fun e w' => e = .returned (.int .i64 (numL (bytesOf x))) ∧ St w' B Z K M N n f at_ ws ∧ Fr K M w w' := by
  obtain ⟨b, l, g, d, t, wv, h⟩ := h
  obtain ⟨bw, ow, cap, hnx, hto⟩ := h.took
  refine (number_ok K bw ow _ cap x at_ lo hi w hnx hx hv hr).mono ?_
  rintro e w' ⟨rfl, ht⟩
  exact ⟨rfl, hto w' ht⟩
theorem shut_no (h : St w B Z K M N n f at_ (x :: ws)) (o1 : (x.toList == [111, 112, 101, 110]) = false) (o2 : (x.toList == [99, 108, 111, 115, 101, 100]) = false) :
    Calls Tryz.prog 83 #[.pointer (some ⟨K, 0, none⟩)] w fun e w' => e = gaveUp 1 at_ ∧ Fr K M w w' := by
  obtain ⟨b, l, g, d, t, wv, h⟩ := h
  obtain ⟨bw, ow, cap, hnx, hto⟩ := h.took
  refine (closed_no K bw ow _ cap x at_ w hnx o1 o2).mono ?_
  rintro e w' ⟨rfl, ht⟩
  exact ⟨rfl, (hto w' ⟨w', ht, Below.refl _ _⟩).2⟩
theorem shut_ok (h : St w B Z K M N n f at_ (x :: ws)) (ho : (x.toList == [111, 112, 101, 110]) = true ∨ (x.toList == [99, 108, 111, 115, 101, 100]) = true) :
    Calls Tryz.prog 83 #[.pointer (some ⟨K, 0, none⟩)] w fun e w' => e = .returned (.bool (x.toList == [99, 108, 111, 115, 101, 100])) ∧ St w' B Z K M N n f at_ ws ∧ Fr K M w w' := by
  obtain ⟨b, l, g, d, t, wv, h⟩ := h
  obtain ⟨bw, ow, cap, hnx, hto⟩ := h.took
  refine (closed_ok K bw ow _ cap x at_ w hnx ho).mono ?_
  rintro e w' ⟨rfl, ht⟩
  exact ⟨rfl, hto w' ⟨w', ht, Below.refl _ _⟩⟩
end
end Go.Proofs.YtpbalclhdhjnoaaGreatDoor
