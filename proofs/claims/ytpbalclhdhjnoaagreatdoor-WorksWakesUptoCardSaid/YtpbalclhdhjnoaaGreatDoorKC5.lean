/- The program's reader: one line is taken, whatever its kind. -/
import Derived.Test.YtpbalclhdhjnoaaGreatDoorKC2
import Derived.Test.YtpbalclhdhjnoaaGreatDoorKA1
namespace Go.Proofs.YtpbalclhdhjnoaaGreatDoor
open Go.RowKit Go.Maps

set_option maxHeartbeats 800000 in
set_option maxRecDepth 100000 in
theorem take_bus_ok (B Z K M n : Nat) (N : NetM) (f : Taken) (ws : List ByteArray) (at_ : Int) (w : World) (R : World → Prop) (hs : St w B Z K M N n f at_ (kBus :: ws)) (hb : N.name.toList.isEmpty = false) (hl : ws.length = 1)
    (hc : ∀ W, St W B Z K M N n f at_ ws → Fr K M w W → Calls Tryz.prog 65 #[.pointer (some ⟨K, 0, none⟩)] W fun e w' => e = .returned (.tuple #[]) ∧ R w') :
    Calls Tryz.prog 53 #[.pointer (some ⟨K, 0, none⟩)] w fun e w' => e = .returned (.tuple #[]) ∧ R w' := by
  obtain ⟨b, l, g, d, t, wv, hs⟩ := hs
  obtain ⟨bw, ow, cap, hnx, hto⟩ := hs.took
  have c8 : w.cell? ⟨K, 8, none⟩ = some (.slice (some ⟨bw, ow, none⟩) 2 cap) := by have := hnx.h; rwa [hl] at this
  have hw := hide' hnx.word
  have HT := hide' hto
  have HC := hide' hc
  have bkNet : (kBus.toList == [110, 101, 116]) = false := by rw [lit_beq]; decide
  have bkBus : (kBus.toList == [98, 117, 115]) = true := by rw [lit_beq]; decide
  have bkLine : (kBus.toList == [108, 105, 110, 101]) = false := by rw [lit_beq]; decide
  have bkGen : (kBus.toList == [103, 101, 110]) = false := by rw [lit_beq]; decide
  have bkLoad : (kBus.toList == [108, 111, 97, 100]) = false := by rw [lit_beq]; decide
  have bkTie : (kBus.toList == [116, 105, 101]) = false := by rw [lit_beq]; decide
  clear hto hnx hs hc
  go_enter Tryz.func53, Tryz.ntmps53
  go_wp2_with (first
    | (go_at_call 62; refine hw.out.mono ?_; rintro e w1 ⟨rfl, ht⟩; obtain ⟨hs1, fr1⟩ := HT.out w1 ⟨w1, ht, Below.refl _ _⟩; have HS1 := hide' hs1; obtain ⟨b1, l1, g1, d1, t1, wv1, h1⟩ := hs1; have c0 := h1.cell 0 rfl)
    | (go_at_call 63; refine (wordsIn_any kBus _).mono ?_; rw [show longK kBus = 2 from by decide]; rintro e w2 ⟨rfl, hw'⟩; obtain rfl := hw'.symm)
    | (go_at_call 54; refine (begun_any _ N.name _ c0).mono ?_; rintro e w3 ⟨rfl, hw'⟩; obtain rfl := hw'.symm)
    | (go_at_call 51; refine (insist_yes _ _ _).mono ?_; rintro e w4 ⟨rfl, hw'⟩; obtain rfl := hw'.symm)
    | (go_at_call 65; refine (HC.out _ HS1.out fr1).mono ?_; rintro e w5 ⟨rfl, hR⟩)
    | go_in)
  go_end0
  exact ⟨rfl, hR⟩
set_option maxHeartbeats 800000 in
set_option maxRecDepth 100000 in
theorem take_bus_err (B Z K M n : Nat) (N : NetM) (f : Taken) (ws : List ByteArray) (at_ c : Int) (w : World) (R : World → Prop) (hs : St w B Z K M N n f at_ (kBus :: ws)) (hb : N.name.toList.isEmpty = false) (hl : ws.length = 1)
    (hc : ∀ W, St W B Z K M N n f at_ ws → Fr K M w W → Calls Tryz.prog 65 #[.pointer (some ⟨K, 0, none⟩)] W fun e w' => e = gaveUp c at_ ∧ R w') :
    Calls Tryz.prog 53 #[.pointer (some ⟨K, 0, none⟩)] w fun e w' => e = gaveUp c at_ ∧ R w' := by
  obtain ⟨b, l, g, d, t, wv, hs⟩ := hs
  obtain ⟨bw, ow, cap, hnx, hto⟩ := hs.took
  have c8 : w.cell? ⟨K, 8, none⟩ = some (.slice (some ⟨bw, ow, none⟩) 2 cap) := by have := hnx.h; rwa [hl] at this
  have hw := hide' hnx.word
  have HT := hide' hto
  have HC := hide' hc
  have bkNet : (kBus.toList == [110, 101, 116]) = false := by rw [lit_beq]; decide
  have bkBus : (kBus.toList == [98, 117, 115]) = true := by rw [lit_beq]; decide
  have bkLine : (kBus.toList == [108, 105, 110, 101]) = false := by rw [lit_beq]; decide
  have bkGen : (kBus.toList == [103, 101, 110]) = false := by rw [lit_beq]; decide
  have bkLoad : (kBus.toList == [108, 111, 97, 100]) = false := by rw [lit_beq]; decide
  have bkTie : (kBus.toList == [116, 105, 101]) = false := by rw [lit_beq]; decide
  clear hto hnx hs hc
  go_enter Tryz.func53, Tryz.ntmps53
  go_wp2_with (first
    | (go_at_call 62; refine hw.out.mono ?_; rintro e w1 ⟨rfl, ht⟩; obtain ⟨hs1, fr1⟩ := HT.out w1 ⟨w1, ht, Below.refl _ _⟩; have HS1 := hide' hs1; obtain ⟨b1, l1, g1, d1, t1, wv1, h1⟩ := hs1; have c0 := h1.cell 0 rfl)
    | (go_at_call 63; refine (wordsIn_any kBus _).mono ?_; rw [show longK kBus = 2 from by decide]; rintro e w2 ⟨rfl, hw'⟩; obtain rfl := hw'.symm)
    | (go_at_call 54; refine (begun_any _ N.name _ c0).mono ?_; rintro e w3 ⟨rfl, hw'⟩; obtain rfl := hw'.symm)
    | (go_at_call 51; refine (insist_yes _ _ _).mono ?_; rintro e w4 ⟨rfl, hw'⟩; obtain rfl := hw'.symm)
    | (go_at_call 65; refine (HC.out _ HS1.out fr1).mono ?_; rintro e w5 ⟨rfl, hR⟩)
    | go_in)
  exact ⟨rfl, rfl, hR⟩
set_option maxHeartbeats 800000 in
set_option maxRecDepth 100000 in
theorem take_line_ok (B Z K M n : Nat) (N : NetM) (f : Taken) (ws : List ByteArray) (at_ : Int) (w : World) (R : World → Prop) (hs : St w B Z K M N n f at_ (kLine :: ws)) (hb : N.name.toList.isEmpty = false) (hl : ws.length = 5)
    (hc : ∀ W, St W B Z K M N n f at_ ws → Fr K M w W → Calls Tryz.prog 66 #[.pointer (some ⟨K, 0, none⟩)] W fun e w' => e = .returned (.tuple #[]) ∧ R w') :
    Calls Tryz.prog 53 #[.pointer (some ⟨K, 0, none⟩)] w fun e w' => e = .returned (.tuple #[]) ∧ R w' := by
  obtain ⟨b, l, g, d, t, wv, hs⟩ := hs
  obtain ⟨bw, ow, cap, hnx, hto⟩ := hs.took
  have c8 : w.cell? ⟨K, 8, none⟩ = some (.slice (some ⟨bw, ow, none⟩) 6 cap) := by have := hnx.h; rwa [hl] at this
  have hw := hide' hnx.word
  have HT := hide' hto
  have HC := hide' hc
  have bkNet : (kLine.toList == [110, 101, 116]) = false := by rw [lit_beq]; decide
  have bkBus : (kLine.toList == [98, 117, 115]) = false := by rw [lit_beq]; decide
  have bkLine : (kLine.toList == [108, 105, 110, 101]) = true := by rw [lit_beq]; decide
  have bkGen : (kLine.toList == [103, 101, 110]) = false := by rw [lit_beq]; decide
  have bkLoad : (kLine.toList == [108, 111, 97, 100]) = false := by rw [lit_beq]; decide
  have bkTie : (kLine.toList == [116, 105, 101]) = false := by rw [lit_beq]; decide
  clear hto hnx hs hc
  go_enter Tryz.func53, Tryz.ntmps53
  go_wp2_with (first
    | (go_at_call 62; refine hw.out.mono ?_; rintro e w1 ⟨rfl, ht⟩; obtain ⟨hs1, fr1⟩ := HT.out w1 ⟨w1, ht, Below.refl _ _⟩; have HS1 := hide' hs1; obtain ⟨b1, l1, g1, d1, t1, wv1, h1⟩ := hs1; have c0 := h1.cell 0 rfl)
    | (go_at_call 63; refine (wordsIn_any kLine _).mono ?_; rw [show longK kLine = 6 from by decide]; rintro e w2 ⟨rfl, hw'⟩; obtain rfl := hw'.symm)
    | (go_at_call 54; refine (begun_any _ N.name _ c0).mono ?_; rintro e w3 ⟨rfl, hw'⟩; obtain rfl := hw'.symm)
    | (go_at_call 51; refine (insist_yes _ _ _).mono ?_; rintro e w4 ⟨rfl, hw'⟩; obtain rfl := hw'.symm)
    | (go_at_call 66; refine (HC.out _ HS1.out fr1).mono ?_; rintro e w5 ⟨rfl, hR⟩)
    | go_in)
  go_end0
  exact ⟨rfl, hR⟩
set_option maxHeartbeats 800000 in
set_option maxRecDepth 100000 in
theorem take_line_err (B Z K M n : Nat) (N : NetM) (f : Taken) (ws : List ByteArray) (at_ c : Int) (w : World) (R : World → Prop) (hs : St w B Z K M N n f at_ (kLine :: ws)) (hb : N.name.toList.isEmpty = false) (hl : ws.length = 5)
    (hc : ∀ W, St W B Z K M N n f at_ ws → Fr K M w W → Calls Tryz.prog 66 #[.pointer (some ⟨K, 0, none⟩)] W fun e w' => e = gaveUp c at_ ∧ R w') :
    Calls Tryz.prog 53 #[.pointer (some ⟨K, 0, none⟩)] w fun e w' => e = gaveUp c at_ ∧ R w' := by
  obtain ⟨b, l, g, d, t, wv, hs⟩ := hs
  obtain ⟨bw, ow, cap, hnx, hto⟩ := hs.took
  have c8 : w.cell? ⟨K, 8, none⟩ = some (.slice (some ⟨bw, ow, none⟩) 6 cap) := by have := hnx.h; rwa [hl] at this
  have hw := hide' hnx.word
  have HT := hide' hto
  have HC := hide' hc
  have bkNet : (kLine.toList == [110, 101, 116]) = false := by rw [lit_beq]; decide
  have bkBus : (kLine.toList == [98, 117, 115]) = false := by rw [lit_beq]; decide
  have bkLine : (kLine.toList == [108, 105, 110, 101]) = true := by rw [lit_beq]; decide
  have bkGen : (kLine.toList == [103, 101, 110]) = false := by rw [lit_beq]; decide
  have bkLoad : (kLine.toList == [108, 111, 97, 100]) = false := by rw [lit_beq]; decide
  have bkTie : (kLine.toList == [116, 105, 101]) = false := by rw [lit_beq]; decide
  clear hto hnx hs hc
  go_enter Tryz.func53, Tryz.ntmps53
  go_wp2_with (first
    | (go_at_call 62; refine hw.out.mono ?_; rintro e w1 ⟨rfl, ht⟩; obtain ⟨hs1, fr1⟩ := HT.out w1 ⟨w1, ht, Below.refl _ _⟩; have HS1 := hide' hs1; obtain ⟨b1, l1, g1, d1, t1, wv1, h1⟩ := hs1; have c0 := h1.cell 0 rfl)
    | (go_at_call 63; refine (wordsIn_any kLine _).mono ?_; rw [show longK kLine = 6 from by decide]; rintro e w2 ⟨rfl, hw'⟩; obtain rfl := hw'.symm)
    | (go_at_call 54; refine (begun_any _ N.name _ c0).mono ?_; rintro e w3 ⟨rfl, hw'⟩; obtain rfl := hw'.symm)
    | (go_at_call 51; refine (insist_yes _ _ _).mono ?_; rintro e w4 ⟨rfl, hw'⟩; obtain rfl := hw'.symm)
    | (go_at_call 66; refine (HC.out _ HS1.out fr1).mono ?_; rintro e w5 ⟨rfl, hR⟩)
    | go_in)
  exact ⟨rfl, rfl, hR⟩
set_option maxHeartbeats 800000 in
set_option maxRecDepth 100000 in
theorem take_gen_ok (B Z K M n : Nat) (N : NetM) (f : Taken) (ws : List ByteArray) (at_ : Int) (w : World) (R : World → Prop) (hs : St w B Z K M N n f at_ (kGen :: ws)) (hb : N.name.toList.isEmpty = false) (hl : ws.length = 5)
    (hc : ∀ W, St W B Z K M N n f at_ ws → Fr K M w W → Calls Tryz.prog 67 #[.pointer (some ⟨K, 0, none⟩)] W fun e w' => e = .returned (.tuple #[]) ∧ R w') :
    Calls Tryz.prog 53 #[.pointer (some ⟨K, 0, none⟩)] w fun e w' => e = .returned (.tuple #[]) ∧ R w' := by
  obtain ⟨b, l, g, d, t, wv, hs⟩ := hs
  obtain ⟨bw, ow, cap, hnx, hto⟩ := hs.took
  have c8 : w.cell? ⟨K, 8, none⟩ = some (.slice (some ⟨bw, ow, none⟩) 6 cap) := by have := hnx.h; rwa [hl] at this
  have hw := hide' hnx.word
  have HT := hide' hto
  have HC := hide' hc
  have bkNet : (kGen.toList == [110, 101, 116]) = false := by rw [lit_beq]; decide
  have bkBus : (kGen.toList == [98, 117, 115]) = false := by rw [lit_beq]; decide
  have bkLine : (kGen.toList == [108, 105, 110, 101]) = false := by rw [lit_beq]; decide
  have bkGen : (kGen.toList == [103, 101, 110]) = true := by rw [lit_beq]; decide
  have bkLoad : (kGen.toList == [108, 111, 97, 100]) = false := by rw [lit_beq]; decide
  have bkTie : (kGen.toList == [116, 105, 101]) = false := by rw [lit_beq]; decide
  clear hto hnx hs hc
  go_enter Tryz.func53, Tryz.ntmps53
  go_wp2_with (first
    | (go_at_call 62; refine hw.out.mono ?_; rintro e w1 ⟨rfl, ht⟩; obtain ⟨hs1, fr1⟩ := HT.out w1 ⟨w1, ht, Below.refl _ _⟩; have HS1 := hide' hs1; obtain ⟨b1, l1, g1, d1, t1, wv1, h1⟩ := hs1; have c0 := h1.cell 0 rfl)
    | (go_at_call 63; refine (wordsIn_any kGen _).mono ?_; rw [show longK kGen = 6 from by decide]; rintro e w2 ⟨rfl, hw'⟩; obtain rfl := hw'.symm)
    | (go_at_call 54; refine (begun_any _ N.name _ c0).mono ?_; rintro e w3 ⟨rfl, hw'⟩; obtain rfl := hw'.symm)
    | (go_at_call 51; refine (insist_yes _ _ _).mono ?_; rintro e w4 ⟨rfl, hw'⟩; obtain rfl := hw'.symm)
    | (go_at_call 67; refine (HC.out _ HS1.out fr1).mono ?_; rintro e w5 ⟨rfl, hR⟩)
    | go_in)
  go_end0
  exact ⟨rfl, hR⟩
set_option maxHeartbeats 800000 in
set_option maxRecDepth 100000 in
theorem take_gen_err (B Z K M n : Nat) (N : NetM) (f : Taken) (ws : List ByteArray) (at_ c : Int) (w : World) (R : World → Prop) (hs : St w B Z K M N n f at_ (kGen :: ws)) (hb : N.name.toList.isEmpty = false) (hl : ws.length = 5)
    (hc : ∀ W, St W B Z K M N n f at_ ws → Fr K M w W → Calls Tryz.prog 67 #[.pointer (some ⟨K, 0, none⟩)] W fun e w' => e = gaveUp c at_ ∧ R w') :
    Calls Tryz.prog 53 #[.pointer (some ⟨K, 0, none⟩)] w fun e w' => e = gaveUp c at_ ∧ R w' := by
  obtain ⟨b, l, g, d, t, wv, hs⟩ := hs
  obtain ⟨bw, ow, cap, hnx, hto⟩ := hs.took
  have c8 : w.cell? ⟨K, 8, none⟩ = some (.slice (some ⟨bw, ow, none⟩) 6 cap) := by have := hnx.h; rwa [hl] at this
  have hw := hide' hnx.word
  have HT := hide' hto
  have HC := hide' hc
  have bkNet : (kGen.toList == [110, 101, 116]) = false := by rw [lit_beq]; decide
  have bkBus : (kGen.toList == [98, 117, 115]) = false := by rw [lit_beq]; decide
  have bkLine : (kGen.toList == [108, 105, 110, 101]) = false := by rw [lit_beq]; decide
  have bkGen : (kGen.toList == [103, 101, 110]) = true := by rw [lit_beq]; decide
  have bkLoad : (kGen.toList == [108, 111, 97, 100]) = false := by rw [lit_beq]; decide
  have bkTie : (kGen.toList == [116, 105, 101]) = false := by rw [lit_beq]; decide
  clear hto hnx hs hc
  go_enter Tryz.func53, Tryz.ntmps53
  go_wp2_with (first
    | (go_at_call 62; refine hw.out.mono ?_; rintro e w1 ⟨rfl, ht⟩; obtain ⟨hs1, fr1⟩ := HT.out w1 ⟨w1, ht, Below.refl _ _⟩; have HS1 := hide' hs1; obtain ⟨b1, l1, g1, d1, t1, wv1, h1⟩ := hs1; have c0 := h1.cell 0 rfl)
    | (go_at_call 63; refine (wordsIn_any kGen _).mono ?_; rw [show longK kGen = 6 from by decide]; rintro e w2 ⟨rfl, hw'⟩; obtain rfl := hw'.symm)
    | (go_at_call 54; refine (begun_any _ N.name _ c0).mono ?_; rintro e w3 ⟨rfl, hw'⟩; obtain rfl := hw'.symm)
    | (go_at_call 51; refine (insist_yes _ _ _).mono ?_; rintro e w4 ⟨rfl, hw'⟩; obtain rfl := hw'.symm)
    | (go_at_call 67; refine (HC.out _ HS1.out fr1).mono ?_; rintro e w5 ⟨rfl, hR⟩)
    | go_in)
  exact ⟨rfl, rfl, hR⟩
set_option maxHeartbeats 800000 in
set_option maxRecDepth 100000 in
theorem take_load_ok (B Z K M n : Nat) (N : NetM) (f : Taken) (ws : List ByteArray) (at_ : Int) (w : World) (R : World → Prop) (hs : St w B Z K M N n f at_ (kLoad :: ws)) (hb : N.name.toList.isEmpty = false) (hl : ws.length = 3)
    (hc : ∀ W, St W B Z K M N n f at_ ws → Fr K M w W → Calls Tryz.prog 68 #[.pointer (some ⟨K, 0, none⟩)] W fun e w' => e = .returned (.tuple #[]) ∧ R w') :
    Calls Tryz.prog 53 #[.pointer (some ⟨K, 0, none⟩)] w fun e w' => e = .returned (.tuple #[]) ∧ R w' := by
  obtain ⟨b, l, g, d, t, wv, hs⟩ := hs
  obtain ⟨bw, ow, cap, hnx, hto⟩ := hs.took
  have c8 : w.cell? ⟨K, 8, none⟩ = some (.slice (some ⟨bw, ow, none⟩) 4 cap) := by have := hnx.h; rwa [hl] at this
  have hw := hide' hnx.word
  have HT := hide' hto
  have HC := hide' hc
  have bkNet : (kLoad.toList == [110, 101, 116]) = false := by rw [lit_beq]; decide
  have bkBus : (kLoad.toList == [98, 117, 115]) = false := by rw [lit_beq]; decide
  have bkLine : (kLoad.toList == [108, 105, 110, 101]) = false := by rw [lit_beq]; decide
  have bkGen : (kLoad.toList == [103, 101, 110]) = false := by rw [lit_beq]; decide
  have bkLoad : (kLoad.toList == [108, 111, 97, 100]) = true := by rw [lit_beq]; decide
  have bkTie : (kLoad.toList == [116, 105, 101]) = false := by rw [lit_beq]; decide
  clear hto hnx hs hc
  go_enter Tryz.func53, Tryz.ntmps53
  go_wp2_with (first
    | (go_at_call 62; refine hw.out.mono ?_; rintro e w1 ⟨rfl, ht⟩; obtain ⟨hs1, fr1⟩ := HT.out w1 ⟨w1, ht, Below.refl _ _⟩; have HS1 := hide' hs1; obtain ⟨b1, l1, g1, d1, t1, wv1, h1⟩ := hs1; have c0 := h1.cell 0 rfl)
    | (go_at_call 63; refine (wordsIn_any kLoad _).mono ?_; rw [show longK kLoad = 4 from by decide]; rintro e w2 ⟨rfl, hw'⟩; obtain rfl := hw'.symm)
    | (go_at_call 54; refine (begun_any _ N.name _ c0).mono ?_; rintro e w3 ⟨rfl, hw'⟩; obtain rfl := hw'.symm)
    | (go_at_call 51; refine (insist_yes _ _ _).mono ?_; rintro e w4 ⟨rfl, hw'⟩; obtain rfl := hw'.symm)
    | (go_at_call 68; refine (HC.out _ HS1.out fr1).mono ?_; rintro e w5 ⟨rfl, hR⟩)
    | go_in)
  go_end0
  exact ⟨rfl, hR⟩
set_option maxHeartbeats 800000 in
set_option maxRecDepth 100000 in
theorem take_load_err (B Z K M n : Nat) (N : NetM) (f : Taken) (ws : List ByteArray) (at_ c : Int) (w : World) (R : World → Prop) (hs : St w B Z K M N n f at_ (kLoad :: ws)) (hb : N.name.toList.isEmpty = false) (hl : ws.length = 3)
    (hc : ∀ W, St W B Z K M N n f at_ ws → Fr K M w W → Calls Tryz.prog 68 #[.pointer (some ⟨K, 0, none⟩)] W fun e w' => e = gaveUp c at_ ∧ R w') :
    Calls Tryz.prog 53 #[.pointer (some ⟨K, 0, none⟩)] w fun e w' => e = gaveUp c at_ ∧ R w' := by
  obtain ⟨b, l, g, d, t, wv, hs⟩ := hs
  obtain ⟨bw, ow, cap, hnx, hto⟩ := hs.took
  have c8 : w.cell? ⟨K, 8, none⟩ = some (.slice (some ⟨bw, ow, none⟩) 4 cap) := by have := hnx.h; rwa [hl] at this
  have hw := hide' hnx.word
  have HT := hide' hto
  have HC := hide' hc
  have bkNet : (kLoad.toList == [110, 101, 116]) = false := by rw [lit_beq]; decide
  have bkBus : (kLoad.toList == [98, 117, 115]) = false := by rw [lit_beq]; decide
  have bkLine : (kLoad.toList == [108, 105, 110, 101]) = false := by rw [lit_beq]; decide
  have bkGen : (kLoad.toList == [103, 101, 110]) = false := by rw [lit_beq]; decide
  have bkLoad : (kLoad.toList == [108, 111, 97, 100]) = true := by rw [lit_beq]; decide
  have bkTie : (kLoad.toList == [116, 105, 101]) = false := by rw [lit_beq]; decide
  clear hto hnx hs hc
  go_enter Tryz.func53, Tryz.ntmps53
  go_wp2_with (first
    | (go_at_call 62; refine hw.out.mono ?_; rintro e w1 ⟨rfl, ht⟩; obtain ⟨hs1, fr1⟩ := HT.out w1 ⟨w1, ht, Below.refl _ _⟩; have HS1 := hide' hs1; obtain ⟨b1, l1, g1, d1, t1, wv1, h1⟩ := hs1; have c0 := h1.cell 0 rfl)
    | (go_at_call 63; refine (wordsIn_any kLoad _).mono ?_; rw [show longK kLoad = 4 from by decide]; rintro e w2 ⟨rfl, hw'⟩; obtain rfl := hw'.symm)
    | (go_at_call 54; refine (begun_any _ N.name _ c0).mono ?_; rintro e w3 ⟨rfl, hw'⟩; obtain rfl := hw'.symm)
    | (go_at_call 51; refine (insist_yes _ _ _).mono ?_; rintro e w4 ⟨rfl, hw'⟩; obtain rfl := hw'.symm)
    | (go_at_call 68; refine (HC.out _ HS1.out fr1).mono ?_; rintro e w5 ⟨rfl, hR⟩)
    | go_in)
  exact ⟨rfl, rfl, hR⟩
set_option maxHeartbeats 800000 in
set_option maxRecDepth 100000 in
theorem take_tie_ok (B Z K M n : Nat) (N : NetM) (f : Taken) (ws : List ByteArray) (at_ : Int) (w : World) (R : World → Prop) (hs : St w B Z K M N n f at_ (kTie :: ws)) (hb : N.name.toList.isEmpty = false) (hl : ws.length = 4)
    (hc : ∀ W, St W B Z K M N n f at_ ws → Fr K M w W → Calls Tryz.prog 69 #[.pointer (some ⟨K, 0, none⟩)] W fun e w' => e = .returned (.tuple #[]) ∧ R w') :
    Calls Tryz.prog 53 #[.pointer (some ⟨K, 0, none⟩)] w fun e w' => e = .returned (.tuple #[]) ∧ R w' := by
  obtain ⟨b, l, g, d, t, wv, hs⟩ := hs
  obtain ⟨bw, ow, cap, hnx, hto⟩ := hs.took
  have c8 : w.cell? ⟨K, 8, none⟩ = some (.slice (some ⟨bw, ow, none⟩) 5 cap) := by have := hnx.h; rwa [hl] at this
  have hw := hide' hnx.word
  have HT := hide' hto
  have HC := hide' hc
  have bkNet : (kTie.toList == [110, 101, 116]) = false := by rw [lit_beq]; decide
  have bkBus : (kTie.toList == [98, 117, 115]) = false := by rw [lit_beq]; decide
  have bkLine : (kTie.toList == [108, 105, 110, 101]) = false := by rw [lit_beq]; decide
  have bkGen : (kTie.toList == [103, 101, 110]) = false := by rw [lit_beq]; decide
  have bkLoad : (kTie.toList == [108, 111, 97, 100]) = false := by rw [lit_beq]; decide
  have bkTie : (kTie.toList == [116, 105, 101]) = true := by rw [lit_beq]; decide
  clear hto hnx hs hc
  go_enter Tryz.func53, Tryz.ntmps53
  go_wp2_with (first
    | (go_at_call 62; refine hw.out.mono ?_; rintro e w1 ⟨rfl, ht⟩; obtain ⟨hs1, fr1⟩ := HT.out w1 ⟨w1, ht, Below.refl _ _⟩; have HS1 := hide' hs1; obtain ⟨b1, l1, g1, d1, t1, wv1, h1⟩ := hs1; have c0 := h1.cell 0 rfl)
    | (go_at_call 63; refine (wordsIn_any kTie _).mono ?_; rw [show longK kTie = 5 from by decide]; rintro e w2 ⟨rfl, hw'⟩; obtain rfl := hw'.symm)
    | (go_at_call 54; refine (begun_any _ N.name _ c0).mono ?_; rintro e w3 ⟨rfl, hw'⟩; obtain rfl := hw'.symm)
    | (go_at_call 51; refine (insist_yes _ _ _).mono ?_; rintro e w4 ⟨rfl, hw'⟩; obtain rfl := hw'.symm)
    | (go_at_call 69; refine (HC.out _ HS1.out fr1).mono ?_; rintro e w5 ⟨rfl, hR⟩)
    | go_in)
  go_end0
  exact ⟨rfl, hR⟩
set_option maxHeartbeats 800000 in
set_option maxRecDepth 100000 in
theorem take_tie_err (B Z K M n : Nat) (N : NetM) (f : Taken) (ws : List ByteArray) (at_ c : Int) (w : World) (R : World → Prop) (hs : St w B Z K M N n f at_ (kTie :: ws)) (hb : N.name.toList.isEmpty = false) (hl : ws.length = 4)
    (hc : ∀ W, St W B Z K M N n f at_ ws → Fr K M w W → Calls Tryz.prog 69 #[.pointer (some ⟨K, 0, none⟩)] W fun e w' => e = gaveUp c at_ ∧ R w') :
    Calls Tryz.prog 53 #[.pointer (some ⟨K, 0, none⟩)] w fun e w' => e = gaveUp c at_ ∧ R w' := by
  obtain ⟨b, l, g, d, t, wv, hs⟩ := hs
  obtain ⟨bw, ow, cap, hnx, hto⟩ := hs.took
  have c8 : w.cell? ⟨K, 8, none⟩ = some (.slice (some ⟨bw, ow, none⟩) 5 cap) := by have := hnx.h; rwa [hl] at this
  have hw := hide' hnx.word
  have HT := hide' hto
  have HC := hide' hc
  have bkNet : (kTie.toList == [110, 101, 116]) = false := by rw [lit_beq]; decide
  have bkBus : (kTie.toList == [98, 117, 115]) = false := by rw [lit_beq]; decide
  have bkLine : (kTie.toList == [108, 105, 110, 101]) = false := by rw [lit_beq]; decide
  have bkGen : (kTie.toList == [103, 101, 110]) = false := by rw [lit_beq]; decide
  have bkLoad : (kTie.toList == [108, 111, 97, 100]) = false := by rw [lit_beq]; decide
  have bkTie : (kTie.toList == [116, 105, 101]) = true := by rw [lit_beq]; decide
  clear hto hnx hs hc
  go_enter Tryz.func53, Tryz.ntmps53
  go_wp2_with (first
    | (go_at_call 62; refine hw.out.mono ?_; rintro e w1 ⟨rfl, ht⟩; obtain ⟨hs1, fr1⟩ := HT.out w1 ⟨w1, ht, Below.refl _ _⟩; have HS1 := hide' hs1; obtain ⟨b1, l1, g1, d1, t1, wv1, h1⟩ := hs1; have c0 := h1.cell 0 rfl)
    | (go_at_call 63; refine (wordsIn_any kTie _).mono ?_; rw [show longK kTie = 5 from by decide]; rintro e w2 ⟨rfl, hw'⟩; obtain rfl := hw'.symm)
    | (go_at_call 54; refine (begun_any _ N.name _ c0).mono ?_; rintro e w3 ⟨rfl, hw'⟩; obtain rfl := hw'.symm)
    | (go_at_call 51; refine (insist_yes _ _ _).mono ?_; rintro e w4 ⟨rfl, hw'⟩; obtain rfl := hw'.symm)
    | (go_at_call 69; refine (HC.out _ HS1.out fr1).mono ?_; rintro e w5 ⟨rfl, hR⟩)
    | go_in)
  exact ⟨rfl, rfl, hR⟩

set_option maxHeartbeats 800000 in
set_option maxRecDepth 100000 in
theorem take_count (B Z K M n : Nat) (N : NetM) (f : Taken) (k : ByteArray) (ws : List ByteArray) (at_ : Int) (w : World) (hs : St w B Z K M N n f at_ (k :: ws)) (hl : ((ws.length + 1 : Nat) : Int) ≠ (longK k : Int)) :
    Calls Tryz.prog 53 #[.pointer (some ⟨K, 0, none⟩)] w fun e w' => e = gaveUp 1 at_ ∧ Fr K M w w' := by
  obtain ⟨b, l, g, d, t, wv, hs⟩ := hs
  obtain ⟨bw, ow, cap, hnx, hto⟩ := hs.took
  have hw := hide' hnx.word
  have HT := hide' hto
  have c8 : w.cell? ⟨K, 8, none⟩ = some (.slice (some ⟨bw, ow, none⟩) (ws.length + 1) cap) := hnx.h
  have hd : (((ws.length + 1 : Nat) : Int) == (longK k : Int)) = false := by simpa using hl
  have hd' : ((ws.length : Int) + 1 == (longK k : Int)) = false := by simpa using hl
  clear hto hnx hs hl
  go_enter Tryz.func53, Tryz.ntmps53
  go_wp2_with (first
    | (go_at_call 62; refine hw.out.mono ?_; rintro e w1 ⟨rfl, ht⟩; obtain ⟨hs1, fr1⟩ := HT.out w1 ⟨w1, ht, Below.refl _ _⟩; obtain ⟨b1, l1, g1, d1, t1, wv1, h1⟩ := hs1)
    | (go_at_call 63; refine (wordsIn_any k _).mono ?_; rintro e w2 ⟨rfl, hw'⟩; obtain rfl := hw'.symm)
    | (go_at_call 51; refine (insist_no _ _ at_ _ (h1.cell 7 rfl)).mono ?_; rintro e w4 ⟨rfl, hw'⟩; obtain rfl := hw'.symm)
    | go_in)
  exact ⟨rfl, rfl, fr1⟩

set_option maxHeartbeats 800000 in
set_option maxRecDepth 100000 in
theorem take_turn (B Z K M n : Nat) (N : NetM) (f : Taken) (k : ByteArray) (ws : List ByteArray) (at_ : Int) (w : World) (hs : St w B Z K M N n f at_ (k :: ws)) (hl : ((ws.length + 1 : Nat) : Int) = (longK k : Int)) (hb : (k.toList == [110, 101, 116]) = !N.name.toList.isEmpty) :
    Calls Tryz.prog 53 #[.pointer (some ⟨K, 0, none⟩)] w fun e w' => e = gaveUp 1 at_ ∧ Fr K M w w' := by
  obtain ⟨b, l, g, d, t, wv, hs⟩ := hs
  obtain ⟨bw, ow, cap, hnx, hto⟩ := hs.took
  have hw := hide' hnx.word
  have HT := hide' hto
  have c8 : w.cell? ⟨K, 8, none⟩ = some (.slice (some ⟨bw, ow, none⟩) (ws.length + 1) cap) := hnx.h
  have hd : (((ws.length + 1 : Nat) : Int) == (longK k : Int)) = true := by simpa using hl
  have hd' : ((ws.length : Int) + 1 == (longK k : Int)) = true := by simpa using hl
  clear hto hnx hs hl
  go_enter Tryz.func53, Tryz.ntmps53
  go_wp2_with (first
    | (go_at_call 62; refine hw.out.mono ?_; rintro e w1 ⟨rfl, ht⟩; obtain ⟨hs1, fr1⟩ := HT.out w1 ⟨w1, ht, Below.refl _ _⟩; obtain ⟨b1, l1, g1, d1, t1, wv1, h1⟩ := hs1; have c0 := h1.cell 0 rfl)
    | (go_at_call 63; refine (wordsIn_any k _).mono ?_; rintro e w2 ⟨rfl, hw'⟩; obtain rfl := hw'.symm)
    | (go_at_call 54; refine (begun_any _ N.name _ c0).mono ?_; rintro e w3 ⟨rfl, hw'⟩; obtain rfl := hw'.symm)
    | (go_at_call 51; refine (insist_no _ _ at_ _ (h1.cell 7 rfl)).mono ?_; rintro e w4 ⟨rfl, hw'⟩; obtain rfl := hw'.symm)
    | go_in)
  exact ⟨rfl, rfl, fr1⟩
end Go.Proofs.YtpbalclhdhjnoaaGreatDoor
namespace Go.Proofs.YtpbalclhdhjnoaaGreatDoor
open Go.RowKit Go.Maps

section
variable {w : World} {B Z K M n : Nat} {N : NetM} {f : Taken} {at_ : Int} {x : ByteArray} {ws : List ByteArray}
theorem nm_no (h : St w B Z K M N n f at_ (x :: ws)) (hx : x.size ≤ 20000) (hv : nameL (bytesOf x) = false) :
    Calls Tryz.prog 64 #[.pointer (some ⟨K, 0, none⟩)] w fun e w' => e = gaveUp 5 at_ ∧ Fr K M w w' := by
  obtain ⟨b, l, g, d, t, wv, h⟩ := h
  obtain ⟨bw, ow, cap, hnx, hto⟩ := h.took
  refine (name_no K bw ow _ cap x at_ w hnx hx hv).mono ?_
  rintro e w' ⟨rfl, ht⟩
  exact ⟨rfl, (hto w' ht).2⟩
theorem nm_ok (h : St w B Z K M N n f at_ (x :: ws)) (hx : x.size ≤ 20000) (hv : nameL (bytesOf x) = true) :
    Calls Tryz.prog 64 #[.pointer (some ⟨K, 0, none⟩)] w fun e w' => e = .returned (.string x) ∧ St w' B Z K M N n f at_ ws ∧ Fr K M w w' := by
  obtain ⟨b, l, g, d, t, wv, h⟩ := h
  obtain ⟨bw, ow, cap, hnx, hto⟩ := h.took
  refine (name_ok K bw ow _ cap x at_ w hnx hx hv).mono ?_
  rintro e w' ⟨rfl, ht⟩
  exact ⟨rfl, hto w' ht⟩
theorem StV.named {b l g d t wv : Value} (h : StV w B Z K M b l g d t wv N n f at_ []) (x : ByteArray) : St (w.setCell ⟨K, 0, none⟩ (.string x)) B (w.setCell ⟨K, 0, none⟩ (.string x)).heap.size K M { N with name := x } n f at_ [] := by
  have o := h.owns
  exact ⟨b, l, g, d, t, wv, StV.make (N := { N with name := x }) (set_box h.box 0 _) ⟨set_own h.box o.hb (by decide) _ _, set_own h.box o.hl (by decide) _ _, set_own h.box o.hg (by decide) _ _, set_own h.box o.hd (by decide) _ _, set_own h.box o.ht (by decide) _ _⟩ (set_taken h.box h.names _ _) (left_nil _ _ h.words) h.hBK h.hBM⟩
end

set_option maxHeartbeats 800000 in
set_option maxRecDepth 100000 in
theorem take_net_err (B Z K M n : Nat) (N : NetM) (f : Taken) (x : ByteArray) (at_ : Int) (w : World) (hs : St w B Z K M N n f at_ [kNet, x]) (hb : N.name.toList.isEmpty = true) (hx : x.size ≤ 20000) (hv : nameL (bytesOf x) = false) :
    Calls Tryz.prog 53 #[.pointer (some ⟨K, 0, none⟩)] w fun e w' => e = gaveUp 5 at_ ∧ Fr K M w w' := by
  obtain ⟨b, l, g, d, t, wv, hs⟩ := hs
  obtain ⟨bw, ow, cap, hnx, hto⟩ := hs.took
  have c8 : w.cell? ⟨K, 8, none⟩ = some (.slice (some ⟨bw, ow, none⟩) 2 cap) := hnx.h
  have hw := hide' hnx.word
  have HT := hide' hto
  have HV := hide' hv
  have bkNet : (kNet.toList == [110, 101, 116]) = true := by rw [lit_beq]; decide
  clear hto hnx hs hv
  go_enter Tryz.func53, Tryz.ntmps53
  go_wp2_with (first
    | (go_at_call 62; refine hw.out.mono ?_; rintro e w1 ⟨rfl, ht⟩; obtain ⟨hs1, fr1⟩ := HT.out w1 ⟨w1, ht, Below.refl _ _⟩; have HS1 := hide' hs1; obtain ⟨b1, l1, g1, d1, t1, wv1, h1⟩ := hs1; have c0 := h1.cell 0 rfl)
    | (go_at_call 63; refine (wordsIn_any kNet _).mono ?_; rw [show longK kNet = 2 from by decide]; rintro e w2 ⟨rfl, hw'⟩; obtain rfl := hw'.symm)
    | (go_at_call 54; refine (begun_any _ N.name _ c0).mono ?_; rintro e w3 ⟨rfl, hw'⟩; obtain rfl := hw'.symm)
    | (go_at_call 51; refine (insist_yes _ _ _).mono ?_; rintro e w4 ⟨rfl, hw'⟩; obtain rfl := hw'.symm)
    | (go_at_call 64; refine (nm_no HS1.out hx HV.out).mono ?_; rintro e w5 ⟨rfl, fr5⟩)
    | go_in)
  exact ⟨rfl, rfl, fr1.trans fr5⟩

set_option maxHeartbeats 800000 in
set_option maxRecDepth 100000 in
theorem take_net_ok (B Z K M n : Nat) (N : NetM) (f : Taken) (x : ByteArray) (at_ : Int) (w : World) (hs : St w B Z K M N n f at_ [kNet, x]) (hb : N.name.toList.isEmpty = true) (hx : x.size ≤ 20000) (hv : nameL (bytesOf x) = true) :
    Calls Tryz.prog 53 #[.pointer (some ⟨K, 0, none⟩)] w fun e w' => e = .returned (.tuple #[]) ∧ St w' B w'.heap.size K M { N with name := x } n f at_ [] ∧ Bel B w w' := by
  have HS := hide' hs
  obtain ⟨b, l, g, d, t, wv, hs⟩ := hs
  obtain ⟨bw, ow, cap, hnx, hto⟩ := hs.took
  have c8 : w.cell? ⟨K, 8, none⟩ = some (.slice (some ⟨bw, ow, none⟩) 2 cap) := hnx.h
  have hw := hide' hnx.word
  have HT := hide' hto
  have HV := hide' hv
  have bkNet : (kNet.toList == [110, 101, 116]) = true := by rw [lit_beq]; decide
  clear hto hnx hs hv
  go_enter Tryz.func53, Tryz.ntmps53
  go_wp2_with (first
    | (go_at_call 62; refine hw.out.mono ?_; rintro e w1 ⟨rfl, ht⟩; obtain ⟨hs1, fr1⟩ := HT.out w1 ⟨w1, ht, Below.refl _ _⟩; have HS1 := hide' hs1; obtain ⟨b1, l1, g1, d1, t1, wv1, h1⟩ := hs1; have c0 := h1.cell 0 rfl)
    | (go_at_call 63; refine (wordsIn_any kNet _).mono ?_; rw [show longK kNet = 2 from by decide]; rintro e w2 ⟨rfl, hw'⟩; obtain rfl := hw'.symm)
    | (go_at_call 54; refine (begun_any _ N.name _ c0).mono ?_; rintro e w3 ⟨rfl, hw'⟩; obtain rfl := hw'.symm)
    | (go_at_call 51; refine (insist_yes _ _ _).mono ?_; rintro e w4 ⟨rfl, hw'⟩; obtain rfl := hw'.symm)
    | (go_at_call 64; refine (nm_ok HS1.out hx HV.out).mono ?_; rintro e w5 ⟨rfl, ⟨b5, l5, g5, d5, t5, wv5, h5⟩, fr5⟩; have c05 := h5.cell 0 rfl; have z05 := h5.frozen 0)
    | go_in)
  go_end0
  exact ⟨rfl, h5.named x, (HS.out.fr (fr1.trans fr5)).trans (set_below h5.hBK _ _)⟩
end Go.Proofs.YtpbalclhdhjnoaaGreatDoor
