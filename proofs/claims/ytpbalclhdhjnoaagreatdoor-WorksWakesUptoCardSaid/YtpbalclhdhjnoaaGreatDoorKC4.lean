/- The program's reader: where a line that tells a load is wrong, the reader gives up with what was found first. -/
import Derived.Test.YtpbalclhdhjnoaaGreatDoorKC3
namespace Go.Proofs.YtpbalclhdhjnoaaGreatDoor
open Go.RowKit Go.Maps

set_option maxHeartbeats 800000 in
set_option maxRecDepth 100000 in
theorem load_err0 (B Z K M n : Nat) (N : NetM) (f : Taken) (x p y : ByteArray) (at_ c : Int) (w : World) (hs : St w B Z K M N n f at_ [x, p, y]) (hZ : Z ≤ w.heap.size)
    (hc : ∀ W, St W B Z K M N n f at_ [x, p, y] → Calls Tryz.prog 79 #[.pointer (some ⟨K, 0, none⟩), .int .i64 N.loads.length, .int .i64 16] W fun e w' => e = gaveUp c at_ ∧ Fr K M W w') :
    Calls Tryz.prog 68 #[.pointer (some ⟨K, 0, none⟩)] w fun e w' => e = gaveUp c at_ ∧ Bel B w w' := by
  have HS0 : Hid (∀ o, St (w.alloc o) B Z K M N n f at_ [x, p, y]) := fun o => hs.alloc hZ o
  have hLB : B ≤ w.heap.size := by have := hs.ltK; obtain ⟨_, _, _, _, _, _, h⟩ := hs; have := h.hBK; omega
  obtain ⟨b, l, g, d, t, wv, hs⟩ := hs
  obtain ⟨ad, cd, rfl⟩ := own_slice hs.owns.hd
  have c4 : ∀ o, (w.alloc o).cell? ⟨K, 4, none⟩ = some (.slice ad N.loads.length cd) := later (hs.cell 4 rfl)
  have H_hc := hide' hc
  clear hs hc
  go_enter Tryz.func68, Tryz.ntmps68
  go_wp2_with (first
    | (go_at_call 79; refine (H_hc.out _ (HS0.out _)).mono ?_; rintro e w1 ⟨rfl, fr1⟩)
    | go_in)
  have e1 : Bel B w (w.alloc (Obj.cells #[Value.string { data := #[] }, Value.int IntKind.i64 0, Value.int IntKind.i64 0] 51)) := (Bel.refl B w).alloc hLB _
  exact ⟨rfl, rfl, e1.trans ((HS0.out _).fr fr1)⟩

set_option maxHeartbeats 800000 in
set_option maxRecDepth 100000 in
theorem load_err1 (B Z K M n : Nat) (N : NetM) (f : Taken) (x p y : ByteArray) (at_ c : Int) (w : World) (hs : St w B Z K M N n f at_ [x, p, y]) (hZ : Z ≤ w.heap.size)
    (hsx : x.size ≤ 20000) (hn : n ≤ 5000) (hv : nameL (bytesOf x) = true) (hf : (f (bytesOf x)).isSome = false) (hl : N.loads.length < 16) (hc : ∀ W, St W B Z K M N (n + 1) (f.set (bytesOf x) (-1)) at_ [p, y] → Calls Tryz.prog 82 #[.pointer (some ⟨K, 0, none⟩)] W fun e w' => e = gaveUp c at_ ∧ Fr K M W w') :
    Calls Tryz.prog 68 #[.pointer (some ⟨K, 0, none⟩)] w fun e w' => e = gaveUp c at_ ∧ Bel B w w' := by
  have HS0 : Hid (∀ o, St (w.alloc o) B Z K M N n f at_ [x, p, y]) := fun o => hs.alloc hZ o
  have hLB : B ≤ w.heap.size := by have := hs.ltK; obtain ⟨_, _, _, _, _, _, h⟩ := hs; have := h.hBK; omega
  have hKM : w.heap.size ≠ K ∧ w.heap.size ≠ M := ⟨by have := hs.ltK; omega, by have := hs.ltM; omega⟩
  have HNN : Hid (n ≤ 10000) := by show n ≤ 10000; omega
  have HLL : Hid ((N.loads.length : Int) < 16) := by show (N.loads.length : Int) < 16; omega
  obtain ⟨b, l, g, d, t, wv, hs⟩ := hs
  obtain ⟨ad, cd, rfl⟩ := own_slice hs.owns.hd
  have c4 : ∀ o, (w.alloc o).cell? ⟨K, 4, none⟩ = some (.slice ad N.loads.length cd) := later (hs.cell 4 rfl)
  have H_hv := hide' hv
  have H_hf := hide' hf
  have H_hc := hide' hc
  clear hs hv hf hc
  go_enter Tryz.func68, Tryz.ntmps68
  go_wp2_with (first
    | (go_at_call 82; refine (H_hc.out _ (h1.set hZ 0 _)).mono ?_; rintro e w2 ⟨rfl, fr2⟩)
    | (go_at_call 79; refine (newName_ok B Z K M n N f x [p, y] at_ N.loads.length 16 _ (HS0.out _) hsx HNN.out H_hv.out H_hf.out HLL.out).mono ?_; rintro e w1 ⟨rfl, h1, fr1⟩; have bx1 := (Bx.new w 51 _).fr fr1 hKM.1 hKM.2; have k0 : w1.cell? ⟨w.heap.size, 0, none⟩ = some (.string ⟨#[]⟩) := bx1.cell 0 rfl; have z0 := bx1.fz 0)
    | go_in)
  have e1 : Bel B w (w.alloc (Obj.cells #[Value.string { data := #[] }, Value.int IntKind.i64 0, Value.int IntKind.i64 0] 51)) := (Bel.refl B w).alloc hLB _
  exact ⟨rfl, rfl, e1.trans ((HS0.out _).fr fr1) |>.trans (set_below hLB 0 _) |>.trans ((h1.set hZ 0 _).fr fr2)⟩

set_option maxHeartbeats 800000 in
set_option maxRecDepth 100000 in
theorem load_err2 (B Z K M n : Nat) (N : NetM) (f : Taken) (x p y : ByteArray) (at_ c q : Int) (w : World) (hs : St w B Z K M N n f at_ [x, p, y]) (hZ : Z ≤ w.heap.size)
    (hsx : x.size ≤ 20000) (hn : n ≤ 5000) (hv : nameL (bytesOf x) = true) (hf : (f (bytesOf x)).isSome = false) (hl : N.loads.length < 16) (hsp : p.size ≤ 20000) (hp : (f.set (bytesOf x) (-1)) (bytesOf p) = some q) (hq : q ≠ -1) (hc : ∀ W, St W B Z K M N (n + 1) (f.set (bytesOf x) (-1)) at_ [y] → Calls Tryz.prog 81 #[.pointer (some ⟨K, 0, none⟩), .int .i64 0, .int .i64 100000] W fun e w' => e = gaveUp c at_ ∧ Fr K M W w') :
    Calls Tryz.prog 68 #[.pointer (some ⟨K, 0, none⟩)] w fun e w' => e = gaveUp c at_ ∧ Bel B w w' := by
  have HS0 : Hid (∀ o, St (w.alloc o) B Z K M N n f at_ [x, p, y]) := fun o => hs.alloc hZ o
  have hLB : B ≤ w.heap.size := by have := hs.ltK; obtain ⟨_, _, _, _, _, _, h⟩ := hs; have := h.hBK; omega
  have hKM : w.heap.size ≠ K ∧ w.heap.size ≠ M := ⟨by have := hs.ltK; omega, by have := hs.ltM; omega⟩
  have HNN : Hid (n ≤ 10000) := by show n ≤ 10000; omega
  have HLL : Hid ((N.loads.length : Int) < 16) := by show (N.loads.length : Int) < 16; omega
  obtain ⟨b, l, g, d, t, wv, hs⟩ := hs
  obtain ⟨ad, cd, rfl⟩ := own_slice hs.owns.hd
  have c4 : ∀ o, (w.alloc o).cell? ⟨K, 4, none⟩ = some (.slice ad N.loads.length cd) := later (hs.cell 4 rfl)
  have H_hv := hide' hv
  have H_hf := hide' hf
  have H_hp := hide' hp
  have H_hc := hide' hc
  clear hs hv hf hp hc
  go_enter Tryz.func68, Tryz.ntmps68
  go_wp2_with (first
    | (go_at_call 81; refine (H_hc.out _ (h2.set hZ 1 _)).mono ?_; rintro e w3 ⟨rfl, fr3⟩)
    | (go_at_call 82; refine (place_ok B Z K M (n + 1) N (f.set (bytesOf x) (-1)) p [y] at_ q _ (h1.set hZ 0 _) hsp H_hp.out hq).mono ?_; rintro e w2 ⟨rfl, h2, fr2⟩; have bx2 := (bx1.set 0 _).fr fr2 hKM.1 hKM.2; have k1 : w2.cell? ⟨w.heap.size, 1, none⟩ = some (.int .i64 0) := bx2.cell 1 rfl; have z1 := bx2.fz 1)
    | (go_at_call 79; refine (newName_ok B Z K M n N f x [p, y] at_ N.loads.length 16 _ (HS0.out _) hsx HNN.out H_hv.out H_hf.out HLL.out).mono ?_; rintro e w1 ⟨rfl, h1, fr1⟩; have bx1 := (Bx.new w 51 _).fr fr1 hKM.1 hKM.2; have k0 : w1.cell? ⟨w.heap.size, 0, none⟩ = some (.string ⟨#[]⟩) := bx1.cell 0 rfl; have z0 := bx1.fz 0)
    | go_in)
  have e1 : Bel B w (w.alloc (Obj.cells #[Value.string { data := #[] }, Value.int IntKind.i64 0, Value.int IntKind.i64 0] 51)) := (Bel.refl B w).alloc hLB _
  exact ⟨rfl, rfl, e1.trans ((HS0.out _).fr fr1) |>.trans (set_below hLB 0 _) |>.trans ((h1.set hZ 0 _).fr fr2) |>.trans (set_below hLB 1 _) |>.trans ((h2.set hZ 1 _).fr fr3)⟩
end Go.Proofs.YtpbalclhdhjnoaaGreatDoor
namespace Go.Proofs.YtpbalclhdhjnoaaGreatDoor
open Go.RowKit Go.Maps

set_option maxHeartbeats 800000 in
set_option maxRecDepth 100000 in
theorem gen_err0 (B Z K M n : Nat) (N : NetM) (f : Taken) (x p y z r : ByteArray) (at_ c : Int) (w : World) (hs : St w B Z K M N n f at_ [x, p, y, z, r]) (hZ : Z ≤ w.heap.size)
    (hc : ∀ W, St W B Z K M N n f at_ [x, p, y, z, r] → Calls Tryz.prog 79 #[.pointer (some ⟨K, 0, none⟩), .int .i64 N.gens.length, .int .i64 12] W fun e w' => e = gaveUp c at_ ∧ Fr K M W w') :
    Calls Tryz.prog 67 #[.pointer (some ⟨K, 0, none⟩)] w fun e w' => e = gaveUp c at_ ∧ Bel B w w' := by
  have HS0 : Hid (∀ o, St (w.alloc o) B Z K M N n f at_ [x, p, y, z, r]) := fun o => hs.alloc hZ o
  have hLB : B ≤ w.heap.size := by have := hs.ltK; obtain ⟨_, _, _, _, _, _, h⟩ := hs; have := h.hBK; omega
  obtain ⟨b, l, g, d, t, wv, hs⟩ := hs
  obtain ⟨ad, cd, rfl⟩ := own_slice hs.owns.hg
  have c4 : ∀ o, (w.alloc o).cell? ⟨K, 3, none⟩ = some (.slice ad N.gens.length cd) := later (hs.cell 3 rfl)
  have H_hc := hide' hc
  clear hs hc
  go_enter Tryz.func67, Tryz.ntmps67
  go_wp2_with (first
    | (go_at_call 79; refine (H_hc.out _ (HS0.out _)).mono ?_; rintro e w1 ⟨rfl, fr1⟩)
    | go_in)
  have e1 : Bel B w (w.alloc (Obj.cells #[Value.string { data := #[] }, Value.int IntKind.i64 0, Value.int IntKind.i64 0, Value.int IntKind.i64 0, Value.int IntKind.i64 0] 46)) := (Bel.refl B w).alloc hLB _
  exact ⟨rfl, rfl, e1.trans ((HS0.out _).fr fr1)⟩

set_option maxHeartbeats 800000 in
set_option maxRecDepth 100000 in
theorem gen_err1 (B Z K M n : Nat) (N : NetM) (f : Taken) (x p y z r : ByteArray) (at_ c : Int) (w : World) (hs : St w B Z K M N n f at_ [x, p, y, z, r]) (hZ : Z ≤ w.heap.size)
    (hsx : x.size ≤ 20000) (hn : n ≤ 5000) (hv : nameL (bytesOf x) = true) (hf : (f (bytesOf x)).isSome = false) (hl : N.gens.length < 12) (hc : ∀ W, St W B Z K M N (n + 1) (f.set (bytesOf x) (-1)) at_ [p, y, z, r] → Calls Tryz.prog 82 #[.pointer (some ⟨K, 0, none⟩)] W fun e w' => e = gaveUp c at_ ∧ Fr K M W w') :
    Calls Tryz.prog 67 #[.pointer (some ⟨K, 0, none⟩)] w fun e w' => e = gaveUp c at_ ∧ Bel B w w' := by
  have HS0 : Hid (∀ o, St (w.alloc o) B Z K M N n f at_ [x, p, y, z, r]) := fun o => hs.alloc hZ o
  have hLB : B ≤ w.heap.size := by have := hs.ltK; obtain ⟨_, _, _, _, _, _, h⟩ := hs; have := h.hBK; omega
  have hKM : w.heap.size ≠ K ∧ w.heap.size ≠ M := ⟨by have := hs.ltK; omega, by have := hs.ltM; omega⟩
  have HNN : Hid (n ≤ 10000) := by show n ≤ 10000; omega
  have HLL : Hid ((N.gens.length : Int) < 12) := by show (N.gens.length : Int) < 12; omega
  obtain ⟨b, l, g, d, t, wv, hs⟩ := hs
  obtain ⟨ad, cd, rfl⟩ := own_slice hs.owns.hg
  have c4 : ∀ o, (w.alloc o).cell? ⟨K, 3, none⟩ = some (.slice ad N.gens.length cd) := later (hs.cell 3 rfl)
  have H_hv := hide' hv
  have H_hf := hide' hf
  have H_hc := hide' hc
  clear hs hv hf hc
  go_enter Tryz.func67, Tryz.ntmps67
  go_wp2_with (first
    | (go_at_call 82; refine (H_hc.out _ (h1.set hZ 0 _)).mono ?_; rintro e w2 ⟨rfl, fr2⟩)
    | (go_at_call 79; refine (newName_ok B Z K M n N f x [p, y, z, r] at_ N.gens.length 12 _ (HS0.out _) hsx HNN.out H_hv.out H_hf.out HLL.out).mono ?_; rintro e w1 ⟨rfl, h1, fr1⟩; have bx1 := (Bx.new w 46 _).fr fr1 hKM.1 hKM.2; have k0 : w1.cell? ⟨w.heap.size, 0, none⟩ = some (.string ⟨#[]⟩) := bx1.cell 0 rfl; have z0 := bx1.fz 0)
    | go_in)
  have e1 : Bel B w (w.alloc (Obj.cells #[Value.string { data := #[] }, Value.int IntKind.i64 0, Value.int IntKind.i64 0, Value.int IntKind.i64 0, Value.int IntKind.i64 0] 46)) := (Bel.refl B w).alloc hLB _
  exact ⟨rfl, rfl, e1.trans ((HS0.out _).fr fr1) |>.trans (set_below hLB 0 _) |>.trans ((h1.set hZ 0 _).fr fr2)⟩

set_option maxHeartbeats 800000 in
set_option maxRecDepth 100000 in
theorem gen_err2 (B Z K M n : Nat) (N : NetM) (f : Taken) (x p y z r : ByteArray) (at_ c q : Int) (w : World) (hs : St w B Z K M N n f at_ [x, p, y, z, r]) (hZ : Z ≤ w.heap.size)
    (hsx : x.size ≤ 20000) (hn : n ≤ 5000) (hv : nameL (bytesOf x) = true) (hf : (f (bytesOf x)).isSome = false) (hl : N.gens.length < 12) (hsp : p.size ≤ 20000) (hp : (f.set (bytesOf x) (-1)) (bytesOf p) = some q) (hq : q ≠ -1) (hc : ∀ W, St W B Z K M N (n + 1) (f.set (bytesOf x) (-1)) at_ [y, z, r] → Calls Tryz.prog 81 #[.pointer (some ⟨K, 0, none⟩), .int .i64 0, .int .i64 100000] W fun e w' => e = gaveUp c at_ ∧ Fr K M W w') :
    Calls Tryz.prog 67 #[.pointer (some ⟨K, 0, none⟩)] w fun e w' => e = gaveUp c at_ ∧ Bel B w w' := by
  have HS0 : Hid (∀ o, St (w.alloc o) B Z K M N n f at_ [x, p, y, z, r]) := fun o => hs.alloc hZ o
  have hLB : B ≤ w.heap.size := by have := hs.ltK; obtain ⟨_, _, _, _, _, _, h⟩ := hs; have := h.hBK; omega
  have hKM : w.heap.size ≠ K ∧ w.heap.size ≠ M := ⟨by have := hs.ltK; omega, by have := hs.ltM; omega⟩
  have HNN : Hid (n ≤ 10000) := by show n ≤ 10000; omega
  have HLL : Hid ((N.gens.length : Int) < 12) := by show (N.gens.length : Int) < 12; omega
  obtain ⟨b, l, g, d, t, wv, hs⟩ := hs
  obtain ⟨ad, cd, rfl⟩ := own_slice hs.owns.hg
  have c4 : ∀ o, (w.alloc o).cell? ⟨K, 3, none⟩ = some (.slice ad N.gens.length cd) := later (hs.cell 3 rfl)
  have H_hv := hide' hv
  have H_hf := hide' hf
  have H_hp := hide' hp
  have H_hc := hide' hc
  clear hs hv hf hp hc
  go_enter Tryz.func67, Tryz.ntmps67
  go_wp2_with (first
    | (go_at_call 81; refine (H_hc.out _ (h2.set hZ 1 _)).mono ?_; rintro e w3 ⟨rfl, fr3⟩)
    | (go_at_call 82; refine (place_ok B Z K M (n + 1) N (f.set (bytesOf x) (-1)) p [y, z, r] at_ q _ (h1.set hZ 0 _) hsp H_hp.out hq).mono ?_; rintro e w2 ⟨rfl, h2, fr2⟩; have bx2 := (bx1.set 0 _).fr fr2 hKM.1 hKM.2; have k1 : w2.cell? ⟨w.heap.size, 1, none⟩ = some (.int .i64 0) := bx2.cell 1 rfl; have z1 := bx2.fz 1)
    | (go_at_call 79; refine (newName_ok B Z K M n N f x [p, y, z, r] at_ N.gens.length 12 _ (HS0.out _) hsx HNN.out H_hv.out H_hf.out HLL.out).mono ?_; rintro e w1 ⟨rfl, h1, fr1⟩; have bx1 := (Bx.new w 46 _).fr fr1 hKM.1 hKM.2; have k0 : w1.cell? ⟨w.heap.size, 0, none⟩ = some (.string ⟨#[]⟩) := bx1.cell 0 rfl; have z0 := bx1.fz 0)
    | go_in)
  have e1 : Bel B w (w.alloc (Obj.cells #[Value.string { data := #[] }, Value.int IntKind.i64 0, Value.int IntKind.i64 0, Value.int IntKind.i64 0, Value.int IntKind.i64 0] 46)) := (Bel.refl B w).alloc hLB _
  exact ⟨rfl, rfl, e1.trans ((HS0.out _).fr fr1) |>.trans (set_below hLB 0 _) |>.trans ((h1.set hZ 0 _).fr fr2) |>.trans (set_below hLB 1 _) |>.trans ((h2.set hZ 1 _).fr fr3)⟩

set_option maxHeartbeats 800000 in
set_option maxRecDepth 100000 in
theorem gen_err3 (B Z K M n : Nat) (N : NetM) (f : Taken) (x p y z r : ByteArray) (at_ c q : Int) (w : World) (hs : St w B Z K M N n f at_ [x, p, y, z, r]) (hZ : Z ≤ w.heap.size)
    (hsx : x.size ≤ 20000) (hn : n ≤ 5000) (hv : nameL (bytesOf x) = true) (hf : (f (bytesOf x)).isSome = false) (hl : N.gens.length < 12) (hsp : p.size ≤ 20000) (hp : (f.set (bytesOf x) (-1)) (bytesOf p) = some q) (hq : q ≠ -1) (hsy : y.size ≤ 20000) (hvy : 0 ≤ numL (bytesOf y)) (hry : ¬ (numL (bytesOf y) < 0 ∨ 100000 < numL (bytesOf y))) (hc : ∀ W, St W B Z K M N (n + 1) (f.set (bytesOf x) (-1)) at_ [z, r] → Calls Tryz.prog 81 #[.pointer (some ⟨K, 0, none⟩), .int .i64 (numL (bytesOf y)), .int .i64 100000] W fun e w' => e = gaveUp c at_ ∧ Fr K M W w') :
    Calls Tryz.prog 67 #[.pointer (some ⟨K, 0, none⟩)] w fun e w' => e = gaveUp c at_ ∧ Bel B w w' := by
  have HS0 : Hid (∀ o, St (w.alloc o) B Z K M N n f at_ [x, p, y, z, r]) := fun o => hs.alloc hZ o
  have hLB : B ≤ w.heap.size := by have := hs.ltK; obtain ⟨_, _, _, _, _, _, h⟩ := hs; have := h.hBK; omega
  have hKM : w.heap.size ≠ K ∧ w.heap.size ≠ M := ⟨by have := hs.ltK; omega, by have := hs.ltM; omega⟩
  have HNN : Hid (n ≤ 10000) := by show n ≤ 10000; omega
  have HLL : Hid ((N.gens.length : Int) < 12) := by show (N.gens.length : Int) < 12; omega
  obtain ⟨b, l, g, d, t, wv, hs⟩ := hs
  obtain ⟨ad, cd, rfl⟩ := own_slice hs.owns.hg
  have c4 : ∀ o, (w.alloc o).cell? ⟨K, 3, none⟩ = some (.slice ad N.gens.length cd) := later (hs.cell 3 rfl)
  have H_hv := hide' hv
  have H_hf := hide' hf
  have H_hp := hide' hp
  have H_hvy := hide' hvy
  have H_hry := hide' hry
  have H_hc := hide' hc
  clear hs hv hf hp hvy hry hc
  go_enter Tryz.func67, Tryz.ntmps67
  go_wp2_with (first
    | (go_at_call 81; refine (H_hc.out _ (h3.set hZ 2 _)).mono ?_; rintro e w4 ⟨rfl, fr4⟩)
    | (go_at_call 81; refine (num_ok (x := y) (h2.set hZ 1 _) hsy (Int.not_lt.2 H_hvy.out) H_hry.out).mono ?_; rintro e w3 ⟨rfl, h3, fr3⟩; have bx3 := (bx2.set 1 _).fr fr3 hKM.1 hKM.2; have k2 : w3.cell? ⟨w.heap.size, 2, none⟩ = some (.int .i64 0) := bx3.cell 2 rfl; have z2 := bx3.fz 2)
    | (go_at_call 82; refine (place_ok B Z K M (n + 1) N (f.set (bytesOf x) (-1)) p [y, z, r] at_ q _ (h1.set hZ 0 _) hsp H_hp.out hq).mono ?_; rintro e w2 ⟨rfl, h2, fr2⟩; have bx2 := (bx1.set 0 _).fr fr2 hKM.1 hKM.2; have k1 : w2.cell? ⟨w.heap.size, 1, none⟩ = some (.int .i64 0) := bx2.cell 1 rfl; have z1 := bx2.fz 1)
    | (go_at_call 79; refine (newName_ok B Z K M n N f x [p, y, z, r] at_ N.gens.length 12 _ (HS0.out _) hsx HNN.out H_hv.out H_hf.out HLL.out).mono ?_; rintro e w1 ⟨rfl, h1, fr1⟩; have bx1 := (Bx.new w 46 _).fr fr1 hKM.1 hKM.2; have k0 : w1.cell? ⟨w.heap.size, 0, none⟩ = some (.string ⟨#[]⟩) := bx1.cell 0 rfl; have z0 := bx1.fz 0)
    | go_in)
  have e1 : Bel B w (w.alloc (Obj.cells #[Value.string { data := #[] }, Value.int IntKind.i64 0, Value.int IntKind.i64 0, Value.int IntKind.i64 0, Value.int IntKind.i64 0] 46)) := (Bel.refl B w).alloc hLB _
  exact ⟨rfl, rfl, e1.trans ((HS0.out _).fr fr1) |>.trans (set_below hLB 0 _) |>.trans ((h1.set hZ 0 _).fr fr2) |>.trans (set_below hLB 1 _) |>.trans ((h2.set hZ 1 _).fr fr3) |>.trans (set_below hLB 2 _) |>.trans ((h3.set hZ 2 _).fr fr4)⟩

set_option maxHeartbeats 800000 in
set_option maxRecDepth 100000 in
theorem gen_err4 (B Z K M n : Nat) (N : NetM) (f : Taken) (x p y z r : ByteArray) (at_ c q : Int) (w : World) (hs : St w B Z K M N n f at_ [x, p, y, z, r]) (hZ : Z ≤ w.heap.size)
    (hsx : x.size ≤ 20000) (hn : n ≤ 5000) (hv : nameL (bytesOf x) = true) (hf : (f (bytesOf x)).isSome = false) (hl : N.gens.length < 12) (hsp : p.size ≤ 20000) (hp : (f.set (bytesOf x) (-1)) (bytesOf p) = some q) (hq : q ≠ -1) (hsy : y.size ≤ 20000) (hvy : 0 ≤ numL (bytesOf y)) (hry : ¬ (numL (bytesOf y) < 0 ∨ 100000 < numL (bytesOf y))) (hsz : z.size ≤ 20000) (hvz : 0 ≤ numL (bytesOf z)) (hrz : ¬ (numL (bytesOf z) < (numL (bytesOf y)) ∨ 100000 < numL (bytesOf z))) (hc : ∀ W, St W B Z K M N (n + 1) (f.set (bytesOf x) (-1)) at_ [r] → Calls Tryz.prog 81 #[.pointer (some ⟨K, 0, none⟩), .int .i64 0, .int .i64 100000] W fun e w' => e = gaveUp c at_ ∧ Fr K M W w') :
    Calls Tryz.prog 67 #[.pointer (some ⟨K, 0, none⟩)] w fun e w' => e = gaveUp c at_ ∧ Bel B w w' := by
  have HS0 : Hid (∀ o, St (w.alloc o) B Z K M N n f at_ [x, p, y, z, r]) := fun o => hs.alloc hZ o
  have hLB : B ≤ w.heap.size := by have := hs.ltK; obtain ⟨_, _, _, _, _, _, h⟩ := hs; have := h.hBK; omega
  have hKM : w.heap.size ≠ K ∧ w.heap.size ≠ M := ⟨by have := hs.ltK; omega, by have := hs.ltM; omega⟩
  have HNN : Hid (n ≤ 10000) := by show n ≤ 10000; omega
  have HLL : Hid ((N.gens.length : Int) < 12) := by show (N.gens.length : Int) < 12; omega
  obtain ⟨b, l, g, d, t, wv, hs⟩ := hs
  obtain ⟨ad, cd, rfl⟩ := own_slice hs.owns.hg
  have c4 : ∀ o, (w.alloc o).cell? ⟨K, 3, none⟩ = some (.slice ad N.gens.length cd) := later (hs.cell 3 rfl)
  have H_hv := hide' hv
  have H_hf := hide' hf
  have H_hp := hide' hp
  have H_hvy := hide' hvy
  have H_hry := hide' hry
  have H_hvz := hide' hvz
  have H_hrz := hide' hrz
  have H_hc := hide' hc
  clear hs hv hf hp hvy hry hvz hrz hc
  go_enter Tryz.func67, Tryz.ntmps67
  go_wp2_with (first
    | (go_at_call 81; refine (H_hc.out _ (h4.set hZ 3 _)).mono ?_; rintro e w5 ⟨rfl, fr5⟩)
    | (go_at_call 81; refine (num_ok (x := z) (h3.set hZ 2 _) hsz (Int.not_lt.2 H_hvz.out) H_hrz.out).mono ?_; rintro e w4 ⟨rfl, h4, fr4⟩; have bx4 := (bx3.set 2 _).fr fr4 hKM.1 hKM.2; have k3 : w4.cell? ⟨w.heap.size, 3, none⟩ = some (.int .i64 0) := bx4.cell 3 rfl; have z3 := bx4.fz 3)
    | (go_at_call 81; refine (num_ok (x := y) (h2.set hZ 1 _) hsy (Int.not_lt.2 H_hvy.out) H_hry.out).mono ?_; rintro e w3 ⟨rfl, h3, fr3⟩; have bx3 := (bx2.set 1 _).fr fr3 hKM.1 hKM.2; have k2 : w3.cell? ⟨w.heap.size, 2, none⟩ = some (.int .i64 0) := bx3.cell 2 rfl; have z2 := bx3.fz 2)
    | (go_at_call 82; refine (place_ok B Z K M (n + 1) N (f.set (bytesOf x) (-1)) p [y, z, r] at_ q _ (h1.set hZ 0 _) hsp H_hp.out hq).mono ?_; rintro e w2 ⟨rfl, h2, fr2⟩; have bx2 := (bx1.set 0 _).fr fr2 hKM.1 hKM.2; have k1 : w2.cell? ⟨w.heap.size, 1, none⟩ = some (.int .i64 0) := bx2.cell 1 rfl; have z1 := bx2.fz 1)
    | (go_at_call 79; refine (newName_ok B Z K M n N f x [p, y, z, r] at_ N.gens.length 12 _ (HS0.out _) hsx HNN.out H_hv.out H_hf.out HLL.out).mono ?_; rintro e w1 ⟨rfl, h1, fr1⟩; have bx1 := (Bx.new w 46 _).fr fr1 hKM.1 hKM.2; have k0 : w1.cell? ⟨w.heap.size, 0, none⟩ = some (.string ⟨#[]⟩) := bx1.cell 0 rfl; have z0 := bx1.fz 0)
    | go_in)
  have e1 : Bel B w (w.alloc (Obj.cells #[Value.string { data := #[] }, Value.int IntKind.i64 0, Value.int IntKind.i64 0, Value.int IntKind.i64 0, Value.int IntKind.i64 0] 46)) := (Bel.refl B w).alloc hLB _
  exact ⟨rfl, rfl, e1.trans ((HS0.out _).fr fr1) |>.trans (set_below hLB 0 _) |>.trans ((h1.set hZ 0 _).fr fr2) |>.trans (set_below hLB 1 _) |>.trans ((h2.set hZ 1 _).fr fr3) |>.trans (set_below hLB 2 _) |>.trans ((h3.set hZ 2 _).fr fr4) |>.trans (set_below hLB 3 _) |>.trans ((h4.set hZ 3 _).fr fr5)⟩
end Go.Proofs.YtpbalclhdhjnoaaGreatDoor
namespace Go.Proofs.YtpbalclhdhjnoaaGreatDoor
open Go.RowKit Go.Maps

set_option maxHeartbeats 800000 in
set_option maxRecDepth 100000 in
theorem line_err0 (B Z K M n : Nat) (N : NetM) (f : Taken) (x p r y z : ByteArray) (at_ c : Int) (w : World) (hs : St w B Z K M N n f at_ [x, p, r, y, z]) (hZ : Z ≤ w.heap.size)
    (hc : ∀ W, St W B Z K M N n f at_ [x, p, r, y, z] → Calls Tryz.prog 79 #[.pointer (some ⟨K, 0, none⟩), .int .i64 N.lines.length, .int .i64 30] W fun e w' => e = gaveUp c at_ ∧ Fr K M W w') :
    Calls Tryz.prog 66 #[.pointer (some ⟨K, 0, none⟩)] w fun e w' => e = gaveUp c at_ ∧ Bel B w w' := by
  have HS0 : Hid (∀ o, St (w.alloc o) B Z K M N n f at_ [x, p, r, y, z]) := fun o => hs.alloc hZ o
  have hLB : B ≤ w.heap.size := by have := hs.ltK; obtain ⟨_, _, _, _, _, _, h⟩ := hs; have := h.hBK; omega
  obtain ⟨b, l, g, d, t, wv, hs⟩ := hs
  obtain ⟨ad, cd, rfl⟩ := own_slice hs.owns.hl
  have c4 : ∀ o, (w.alloc o).cell? ⟨K, 2, none⟩ = some (.slice ad N.lines.length cd) := later (hs.cell 2 rfl)
  have H_hc := hide' hc
  clear hs hc
  go_enter Tryz.func66, Tryz.ntmps66
  go_wp2_with (first
    | (go_at_call 79; refine (H_hc.out _ (HS0.out _)).mono ?_; rintro e w1 ⟨rfl, fr1⟩)
    | go_in)
  have e1 : Bel B w (w.alloc (Obj.cells #[Value.string { data := #[] }, Value.int IntKind.i64 0, Value.int IntKind.i64 0, Value.int IntKind.i64 0, Value.int IntKind.i64 0] 54)) := (Bel.refl B w).alloc hLB _
  exact ⟨rfl, rfl, e1.trans ((HS0.out _).fr fr1)⟩

set_option maxHeartbeats 800000 in
set_option maxRecDepth 100000 in
theorem line_err1 (B Z K M n : Nat) (N : NetM) (f : Taken) (x p r y z : ByteArray) (at_ c : Int) (w : World) (hs : St w B Z K M N n f at_ [x, p, r, y, z]) (hZ : Z ≤ w.heap.size)
    (hsx : x.size ≤ 20000) (hn : n ≤ 5000) (hv : nameL (bytesOf x) = true) (hf : (f (bytesOf x)).isSome = false) (hl : N.lines.length < 30) (hc : ∀ W, St W B Z K M N (n + 1) (f.set (bytesOf x) (-1)) at_ [p, r, y, z] → Calls Tryz.prog 80 #[.pointer (some ⟨K, 0, none⟩)] W fun e w' => e = gaveUp c at_ ∧ Fr K M W w') :
    Calls Tryz.prog 66 #[.pointer (some ⟨K, 0, none⟩)] w fun e w' => e = gaveUp c at_ ∧ Bel B w w' := by
  have HS0 : Hid (∀ o, St (w.alloc o) B Z K M N n f at_ [x, p, r, y, z]) := fun o => hs.alloc hZ o
  have hLB : B ≤ w.heap.size := by have := hs.ltK; obtain ⟨_, _, _, _, _, _, h⟩ := hs; have := h.hBK; omega
  have hKM : w.heap.size ≠ K ∧ w.heap.size ≠ M := ⟨by have := hs.ltK; omega, by have := hs.ltM; omega⟩
  have HNN : Hid (n ≤ 10000) := by show n ≤ 10000; omega
  have HLL : Hid ((N.lines.length : Int) < 30) := by show (N.lines.length : Int) < 30; omega
  obtain ⟨b, l, g, d, t, wv, hs⟩ := hs
  obtain ⟨ad, cd, rfl⟩ := own_slice hs.owns.hl
  have c4 : ∀ o, (w.alloc o).cell? ⟨K, 2, none⟩ = some (.slice ad N.lines.length cd) := later (hs.cell 2 rfl)
  have H_hv := hide' hv
  have H_hf := hide' hf
  have H_hc := hide' hc
  clear hs hv hf hc
  go_enter Tryz.func66, Tryz.ntmps66
  go_wp2_with (first
    | (go_at_call 80; refine (H_hc.out _ (h1.set hZ 0 _)).mono ?_; rintro e w2 ⟨rfl, fr2⟩)
    | (go_at_call 79; refine (newName_ok B Z K M n N f x [p, r, y, z] at_ N.lines.length 30 _ (HS0.out _) hsx HNN.out H_hv.out H_hf.out HLL.out).mono ?_; rintro e w1 ⟨rfl, h1, fr1⟩; have bx1 := (Bx.new w 54 _).fr fr1 hKM.1 hKM.2; have k0 : w1.cell? ⟨w.heap.size, 0, none⟩ = some (.string ⟨#[]⟩) := bx1.cell 0 rfl; have z0 := bx1.fz 0)
    | go_in)
  have e1 : Bel B w (w.alloc (Obj.cells #[Value.string { data := #[] }, Value.int IntKind.i64 0, Value.int IntKind.i64 0, Value.int IntKind.i64 0, Value.int IntKind.i64 0] 54)) := (Bel.refl B w).alloc hLB _
  exact ⟨rfl, rfl, e1.trans ((HS0.out _).fr fr1) |>.trans (set_below hLB 0 _) |>.trans ((h1.set hZ 0 _).fr fr2)⟩

set_option maxHeartbeats 800000 in
set_option maxRecDepth 100000 in
theorem line_err2 (B Z K M n : Nat) (N : NetM) (f : Taken) (x p r y z : ByteArray) (at_ c q q2 : Int) (w : World) (hs : St w B Z K M N n f at_ [x, p, r, y, z]) (hZ : Z ≤ w.heap.size)
    (hsx : x.size ≤ 20000) (hn : n ≤ 5000) (hv : nameL (bytesOf x) = true) (hf : (f (bytesOf x)).isSome = false) (hl : N.lines.length < 30) (hsp : p.size ≤ 20000) (hsr : r.size ≤ 20000) (hp : (f.set (bytesOf x) (-1)) (bytesOf p) = some q) (hq : q ≠ -1) (hp2 : (f.set (bytesOf x) (-1)) (bytesOf r) = some q2) (hq2 : q2 ≠ -1) (hne : q ≠ q2) (hc : ∀ W, St W B Z K M N (n + 1) (f.set (bytesOf x) (-1)) at_ [y, z] → Calls Tryz.prog 81 #[.pointer (some ⟨K, 0, none⟩), .int .i64 1, .int .i64 10000] W fun e w' => e = gaveUp c at_ ∧ Fr K M W w') :
    Calls Tryz.prog 66 #[.pointer (some ⟨K, 0, none⟩)] w fun e w' => e = gaveUp c at_ ∧ Bel B w w' := by
  have HS0 : Hid (∀ o, St (w.alloc o) B Z K M N n f at_ [x, p, r, y, z]) := fun o => hs.alloc hZ o
  have hLB : B ≤ w.heap.size := by have := hs.ltK; obtain ⟨_, _, _, _, _, _, h⟩ := hs; have := h.hBK; omega
  have hKM : w.heap.size ≠ K ∧ w.heap.size ≠ M := ⟨by have := hs.ltK; omega, by have := hs.ltM; omega⟩
  have HNN : Hid (n ≤ 10000) := by show n ≤ 10000; omega
  have HLL : Hid ((N.lines.length : Int) < 30) := by show (N.lines.length : Int) < 30; omega
  obtain ⟨b, l, g, d, t, wv, hs⟩ := hs
  obtain ⟨ad, cd, rfl⟩ := own_slice hs.owns.hl
  have c4 : ∀ o, (w.alloc o).cell? ⟨K, 2, none⟩ = some (.slice ad N.lines.length cd) := later (hs.cell 2 rfl)
  have H_hv := hide' hv
  have H_hf := hide' hf
  have H_hp := hide' hp
  have H_hp2 := hide' hp2
  have H_hne := hide' hne
  have H_hc := hide' hc
  clear hs hv hf hp hp2 hne hc
  go_enter Tryz.func66, Tryz.ntmps66
  go_wp2_with (first
    | (go_at_call 81; refine (H_hc.out _ ((h2.set hZ 1 _).set hZ 2 _)).mono ?_; rintro e w3 ⟨rfl, fr3⟩)
    | (go_at_call 80; refine (ends_ok B Z K M (n + 1) N (f.set (bytesOf x) (-1)) p r [y, z] at_ q q2 _ (h1.set hZ 0 _) hsp hsr H_hp.out hq H_hp2.out hq2 H_hne.out).mono ?_; rintro e w2 ⟨rfl, h2, fr2⟩; have bx2 := (bx1.set 0 _).fr fr2 hKM.1 hKM.2; have k1 : w2.cell? ⟨w.heap.size, 1, none⟩ = some (.int .i64 0) := bx2.cell 1 rfl; have z1 := bx2.fz 1; have k2 : w2.cell? ⟨w.heap.size, 2, none⟩ = some (.int .i64 0) := bx2.cell 2 rfl; have z2 := bx2.fz 2)
    | (go_at_call 79; refine (newName_ok B Z K M n N f x [p, r, y, z] at_ N.lines.length 30 _ (HS0.out _) hsx HNN.out H_hv.out H_hf.out HLL.out).mono ?_; rintro e w1 ⟨rfl, h1, fr1⟩; have bx1 := (Bx.new w 54 _).fr fr1 hKM.1 hKM.2; have k0 : w1.cell? ⟨w.heap.size, 0, none⟩ = some (.string ⟨#[]⟩) := bx1.cell 0 rfl; have z0 := bx1.fz 0)
    | go_in)
  have e1 : Bel B w (w.alloc (Obj.cells #[Value.string { data := #[] }, Value.int IntKind.i64 0, Value.int IntKind.i64 0, Value.int IntKind.i64 0, Value.int IntKind.i64 0] 54)) := (Bel.refl B w).alloc hLB _
  exact ⟨rfl, rfl, e1.trans ((HS0.out _).fr fr1) |>.trans (set_below hLB 0 _) |>.trans ((h1.set hZ 0 _).fr fr2) |>.trans (set_below hLB 1 _) |>.trans (set_below hLB 2 _) |>.trans (((h2.set hZ 1 _).set hZ 2 _).fr fr3)⟩

set_option maxHeartbeats 800000 in
set_option maxRecDepth 100000 in
theorem line_err3 (B Z K M n : Nat) (N : NetM) (f : Taken) (x p r y z : ByteArray) (at_ c q q2 : Int) (w : World) (hs : St w B Z K M N n f at_ [x, p, r, y, z]) (hZ : Z ≤ w.heap.size)
    (hsx : x.size ≤ 20000) (hn : n ≤ 5000) (hv : nameL (bytesOf x) = true) (hf : (f (bytesOf x)).isSome = false) (hl : N.lines.length < 30) (hsp : p.size ≤ 20000) (hsr : r.size ≤ 20000) (hp : (f.set (bytesOf x) (-1)) (bytesOf p) = some q) (hq : q ≠ -1) (hp2 : (f.set (bytesOf x) (-1)) (bytesOf r) = some q2) (hq2 : q2 ≠ -1) (hne : q ≠ q2) (hsy : y.size ≤ 20000) (hvy : 0 ≤ numL (bytesOf y)) (hry : ¬ (numL (bytesOf y) < 1 ∨ 10000 < numL (bytesOf y))) (hc : ∀ W, St W B Z K M N (n + 1) (f.set (bytesOf x) (-1)) at_ [z] → Calls Tryz.prog 81 #[.pointer (some ⟨K, 0, none⟩), .int .i64 0, .int .i64 100000] W fun e w' => e = gaveUp c at_ ∧ Fr K M W w') :
    Calls Tryz.prog 66 #[.pointer (some ⟨K, 0, none⟩)] w fun e w' => e = gaveUp c at_ ∧ Bel B w w' := by
  have HS0 : Hid (∀ o, St (w.alloc o) B Z K M N n f at_ [x, p, r, y, z]) := fun o => hs.alloc hZ o
  have hLB : B ≤ w.heap.size := by have := hs.ltK; obtain ⟨_, _, _, _, _, _, h⟩ := hs; have := h.hBK; omega
  have hKM : w.heap.size ≠ K ∧ w.heap.size ≠ M := ⟨by have := hs.ltK; omega, by have := hs.ltM; omega⟩
  have HNN : Hid (n ≤ 10000) := by show n ≤ 10000; omega
  have HLL : Hid ((N.lines.length : Int) < 30) := by show (N.lines.length : Int) < 30; omega
  obtain ⟨b, l, g, d, t, wv, hs⟩ := hs
  obtain ⟨ad, cd, rfl⟩ := own_slice hs.owns.hl
  have c4 : ∀ o, (w.alloc o).cell? ⟨K, 2, none⟩ = some (.slice ad N.lines.length cd) := later (hs.cell 2 rfl)
  have H_hv := hide' hv
  have H_hf := hide' hf
  have H_hp := hide' hp
  have H_hp2 := hide' hp2
  have H_hne := hide' hne
  have H_hvy := hide' hvy
  have H_hry := hide' hry
  have H_hc := hide' hc
  clear hs hv hf hp hp2 hne hvy hry hc
  go_enter Tryz.func66, Tryz.ntmps66
  go_wp2_with (first
    | (go_at_call 81; refine (H_hc.out _ (h3.set hZ 3 _)).mono ?_; rintro e w4 ⟨rfl, fr4⟩)
    | (go_at_call 81; refine (num_ok (x := y) ((h2.set hZ 1 _).set hZ 2 _) hsy (Int.not_lt.2 H_hvy.out) H_hry.out).mono ?_; rintro e w3 ⟨rfl, h3, fr3⟩; have bx3 := ((bx2.set 1 _).set 2 _).fr fr3 hKM.1 hKM.2; have k3 : w3.cell? ⟨w.heap.size, 3, none⟩ = some (.int .i64 0) := bx3.cell 3 rfl; have z3 := bx3.fz 3)
    | (go_at_call 80; refine (ends_ok B Z K M (n + 1) N (f.set (bytesOf x) (-1)) p r [y, z] at_ q q2 _ (h1.set hZ 0 _) hsp hsr H_hp.out hq H_hp2.out hq2 H_hne.out).mono ?_; rintro e w2 ⟨rfl, h2, fr2⟩; have bx2 := (bx1.set 0 _).fr fr2 hKM.1 hKM.2; have k1 : w2.cell? ⟨w.heap.size, 1, none⟩ = some (.int .i64 0) := bx2.cell 1 rfl; have z1 := bx2.fz 1; have k2 : w2.cell? ⟨w.heap.size, 2, none⟩ = some (.int .i64 0) := bx2.cell 2 rfl; have z2 := bx2.fz 2)
    | (go_at_call 79; refine (newName_ok B Z K M n N f x [p, r, y, z] at_ N.lines.length 30 _ (HS0.out _) hsx HNN.out H_hv.out H_hf.out HLL.out).mono ?_; rintro e w1 ⟨rfl, h1, fr1⟩; have bx1 := (Bx.new w 54 _).fr fr1 hKM.1 hKM.2; have k0 : w1.cell? ⟨w.heap.size, 0, none⟩ = some (.string ⟨#[]⟩) := bx1.cell 0 rfl; have z0 := bx1.fz 0)
    | go_in)
  have e1 : Bel B w (w.alloc (Obj.cells #[Value.string { data := #[] }, Value.int IntKind.i64 0, Value.int IntKind.i64 0, Value.int IntKind.i64 0, Value.int IntKind.i64 0] 54)) := (Bel.refl B w).alloc hLB _
  exact ⟨rfl, rfl, e1.trans ((HS0.out _).fr fr1) |>.trans (set_below hLB 0 _) |>.trans ((h1.set hZ 0 _).fr fr2) |>.trans (set_below hLB 1 _) |>.trans (set_below hLB 2 _) |>.trans (((h2.set hZ 1 _).set hZ 2 _).fr fr3) |>.trans (set_below hLB 3 _) |>.trans ((h3.set hZ 3 _).fr fr4)⟩
end Go.Proofs.YtpbalclhdhjnoaaGreatDoor
namespace Go.Proofs.YtpbalclhdhjnoaaGreatDoor
open Go.RowKit Go.Maps

set_option maxHeartbeats 800000 in
set_option maxRecDepth 100000 in
theorem tie_err0 (B Z K M n : Nat) (N : NetM) (f : Taken) (x p r y : ByteArray) (at_ c : Int) (w : World) (hs : St w B Z K M N n f at_ [x, p, r, y]) (hZ : Z ≤ w.heap.size)
    (hc : ∀ W, St W B Z K M N n f at_ [x, p, r, y] → Calls Tryz.prog 79 #[.pointer (some ⟨K, 0, none⟩), .int .i64 N.ties.length, .int .i64 24] W fun e w' => e = gaveUp c at_ ∧ Fr K M W w') :
    Calls Tryz.prog 69 #[.pointer (some ⟨K, 0, none⟩)] w fun e w' => e = gaveUp c at_ ∧ Bel B w w' := by
  have HS0 : Hid (∀ o, St (w.alloc o) B Z K M N n f at_ [x, p, r, y]) := fun o => hs.alloc hZ o
  have hLB : B ≤ w.heap.size := by have := hs.ltK; obtain ⟨_, _, _, _, _, _, h⟩ := hs; have := h.hBK; omega
  obtain ⟨b, l, g, d, t, wv, hs⟩ := hs
  obtain ⟨ad, cd, rfl⟩ := own_slice hs.owns.ht
  have c4 : ∀ o, (w.alloc o).cell? ⟨K, 5, none⟩ = some (.slice ad N.ties.length cd) := later (hs.cell 5 rfl)
  have H_hc := hide' hc
  clear hs hc
  go_enter Tryz.func69, Tryz.ntmps69
  go_wp2_with (first
    | (go_at_call 79; refine (H_hc.out _ (HS0.out _)).mono ?_; rintro e w1 ⟨rfl, fr1⟩)
    | go_in)
  have e1 : Bel B w (w.alloc (Obj.cells #[Value.string { data := #[] }, Value.int IntKind.i64 0, Value.int IntKind.i64 0, Value.bool false] 56)) := (Bel.refl B w).alloc hLB _
  exact ⟨rfl, rfl, e1.trans ((HS0.out _).fr fr1)⟩

set_option maxHeartbeats 800000 in
set_option maxRecDepth 100000 in
theorem tie_err1 (B Z K M n : Nat) (N : NetM) (f : Taken) (x p r y : ByteArray) (at_ c : Int) (w : World) (hs : St w B Z K M N n f at_ [x, p, r, y]) (hZ : Z ≤ w.heap.size)
    (hsx : x.size ≤ 20000) (hn : n ≤ 5000) (hv : nameL (bytesOf x) = true) (hf : (f (bytesOf x)).isSome = false) (hl : N.ties.length < 24) (hc : ∀ W, St W B Z K M N (n + 1) (f.set (bytesOf x) (-1)) at_ [p, r, y] → Calls Tryz.prog 80 #[.pointer (some ⟨K, 0, none⟩)] W fun e w' => e = gaveUp c at_ ∧ Fr K M W w') :
    Calls Tryz.prog 69 #[.pointer (some ⟨K, 0, none⟩)] w fun e w' => e = gaveUp c at_ ∧ Bel B w w' := by
  have HS0 : Hid (∀ o, St (w.alloc o) B Z K M N n f at_ [x, p, r, y]) := fun o => hs.alloc hZ o
  have hLB : B ≤ w.heap.size := by have := hs.ltK; obtain ⟨_, _, _, _, _, _, h⟩ := hs; have := h.hBK; omega
  have hKM : w.heap.size ≠ K ∧ w.heap.size ≠ M := ⟨by have := hs.ltK; omega, by have := hs.ltM; omega⟩
  have HNN : Hid (n ≤ 10000) := by show n ≤ 10000; omega
  have HLL : Hid ((N.ties.length : Int) < 24) := by show (N.ties.length : Int) < 24; omega
  obtain ⟨b, l, g, d, t, wv, hs⟩ := hs
  obtain ⟨ad, cd, rfl⟩ := own_slice hs.owns.ht
  have c4 : ∀ o, (w.alloc o).cell? ⟨K, 5, none⟩ = some (.slice ad N.ties.length cd) := later (hs.cell 5 rfl)
  have H_hv := hide' hv
  have H_hf := hide' hf
  have H_hc := hide' hc
  clear hs hv hf hc
  go_enter Tryz.func69, Tryz.ntmps69
  go_wp2_with (first
    | (go_at_call 80; refine (H_hc.out _ (h1.set hZ 0 _)).mono ?_; rintro e w2 ⟨rfl, fr2⟩)
    | (go_at_call 79; refine (newName_ok B Z K M n N f x [p, r, y] at_ N.ties.length 24 _ (HS0.out _) hsx HNN.out H_hv.out H_hf.out HLL.out).mono ?_; rintro e w1 ⟨rfl, h1, fr1⟩; have bx1 := (Bx.new w 56 _).fr fr1 hKM.1 hKM.2; have k0 : w1.cell? ⟨w.heap.size, 0, none⟩ = some (.string ⟨#[]⟩) := bx1.cell 0 rfl; have z0 := bx1.fz 0)
    | go_in)
  have e1 : Bel B w (w.alloc (Obj.cells #[Value.string { data := #[] }, Value.int IntKind.i64 0, Value.int IntKind.i64 0, Value.bool false] 56)) := (Bel.refl B w).alloc hLB _
  exact ⟨rfl, rfl, e1.trans ((HS0.out _).fr fr1) |>.trans (set_below hLB 0 _) |>.trans ((h1.set hZ 0 _).fr fr2)⟩

set_option maxHeartbeats 800000 in
set_option maxRecDepth 100000 in
theorem tie_err2 (B Z K M n : Nat) (N : NetM) (f : Taken) (x p r y : ByteArray) (at_ c q q2 : Int) (w : World) (hs : St w B Z K M N n f at_ [x, p, r, y]) (hZ : Z ≤ w.heap.size)
    (hsx : x.size ≤ 20000) (hn : n ≤ 5000) (hv : nameL (bytesOf x) = true) (hf : (f (bytesOf x)).isSome = false) (hl : N.ties.length < 24) (hsp : p.size ≤ 20000) (hsr : r.size ≤ 20000) (hp : (f.set (bytesOf x) (-1)) (bytesOf p) = some q) (hq : q ≠ -1) (hp2 : (f.set (bytesOf x) (-1)) (bytesOf r) = some q2) (hq2 : q2 ≠ -1) (hne : q ≠ q2) (hc : ∀ W, St W B Z K M N (n + 1) (f.set (bytesOf x) (-1)) at_ [y] → Calls Tryz.prog 83 #[.pointer (some ⟨K, 0, none⟩)] W fun e w' => e = gaveUp c at_ ∧ Fr K M W w') :
    Calls Tryz.prog 69 #[.pointer (some ⟨K, 0, none⟩)] w fun e w' => e = gaveUp c at_ ∧ Bel B w w' := by
  have HS0 : Hid (∀ o, St (w.alloc o) B Z K M N n f at_ [x, p, r, y]) := fun o => hs.alloc hZ o
  have hLB : B ≤ w.heap.size := by have := hs.ltK; obtain ⟨_, _, _, _, _, _, h⟩ := hs; have := h.hBK; omega
  have hKM : w.heap.size ≠ K ∧ w.heap.size ≠ M := ⟨by have := hs.ltK; omega, by have := hs.ltM; omega⟩
  have HNN : Hid (n ≤ 10000) := by show n ≤ 10000; omega
  have HLL : Hid ((N.ties.length : Int) < 24) := by show (N.ties.length : Int) < 24; omega
  obtain ⟨b, l, g, d, t, wv, hs⟩ := hs
  obtain ⟨ad, cd, rfl⟩ := own_slice hs.owns.ht
  have c4 : ∀ o, (w.alloc o).cell? ⟨K, 5, none⟩ = some (.slice ad N.ties.length cd) := later (hs.cell 5 rfl)
  have H_hv := hide' hv
  have H_hf := hide' hf
  have H_hp := hide' hp
  have H_hp2 := hide' hp2
  have H_hne := hide' hne
  have H_hc := hide' hc
  clear hs hv hf hp hp2 hne hc
  go_enter Tryz.func69, Tryz.ntmps69
  go_wp2_with (first
    | (go_at_call 83; refine (H_hc.out _ ((h2.set hZ 1 _).set hZ 2 _)).mono ?_; rintro e w3 ⟨rfl, fr3⟩)
    | (go_at_call 80; refine (ends_ok B Z K M (n + 1) N (f.set (bytesOf x) (-1)) p r [y] at_ q q2 _ (h1.set hZ 0 _) hsp hsr H_hp.out hq H_hp2.out hq2 H_hne.out).mono ?_; rintro e w2 ⟨rfl, h2, fr2⟩; have bx2 := (bx1.set 0 _).fr fr2 hKM.1 hKM.2; have k1 : w2.cell? ⟨w.heap.size, 1, none⟩ = some (.int .i64 0) := bx2.cell 1 rfl; have z1 := bx2.fz 1; have k2 : w2.cell? ⟨w.heap.size, 2, none⟩ = some (.int .i64 0) := bx2.cell 2 rfl; have z2 := bx2.fz 2)
    | (go_at_call 79; refine (newName_ok B Z K M n N f x [p, r, y] at_ N.ties.length 24 _ (HS0.out _) hsx HNN.out H_hv.out H_hf.out HLL.out).mono ?_; rintro e w1 ⟨rfl, h1, fr1⟩; have bx1 := (Bx.new w 56 _).fr fr1 hKM.1 hKM.2; have k0 : w1.cell? ⟨w.heap.size, 0, none⟩ = some (.string ⟨#[]⟩) := bx1.cell 0 rfl; have z0 := bx1.fz 0)
    | go_in)
  have e1 : Bel B w (w.alloc (Obj.cells #[Value.string { data := #[] }, Value.int IntKind.i64 0, Value.int IntKind.i64 0, Value.bool false] 56)) := (Bel.refl B w).alloc hLB _
  exact ⟨rfl, rfl, e1.trans ((HS0.out _).fr fr1) |>.trans (set_below hLB 0 _) |>.trans ((h1.set hZ 0 _).fr fr2) |>.trans (set_below hLB 1 _) |>.trans (set_below hLB 2 _) |>.trans (((h2.set hZ 1 _).set hZ 2 _).fr fr3)⟩
end Go.Proofs.YtpbalclhdhjnoaaGreatDoor
