/- Best, whatever it is given. -/
import Derived.Test.YtnhddmcdmcpkeajVh
namespace Go.Proofs.Ytnhddmcdmcpkeaj
open Go.RowKit Go.Shelf Go.ChangeMaps

/-- Nothing is planned, for a fault. -/
def BadB (W : World) (c : Int) (e : Ending) (w' : World) : Prop := e = .returned (.tuple #[.slice none 0 0, .int .i64 0, .int .i64 c]) ∧ Below W.heap.size W w'
structure BA (ls : List LakeM) (L H P E : Nat) (ti : List (List Int)) (pr en : List Int) (al ai ap ae : Option Addr) (cl ci cp ce : Nat) (W : World) : Prop where
  hL : ls.length = L
  hH : ti.length = H
  hP : pr.length = P
  hE : en.length = E
  b1 : L ≤ 9000000000000000000
  b2 : H ≤ 9000000000000000000
  b3 : P ≤ 9000000000000000000
  b4 : E ≤ 9000000000000000000
  b5 : ∀ l ∈ ti, l.length ≤ 9000000000000000000
  h1 : RowAt W (.slice al L cl) ls.length 5 (ls.flatMap LakeM.cells)
  h2 : TabAt W (.slice ai H ci) ti
  h3 : RowAt W (.slice ap P cp) P 1 (ints pr)
  h4 : RowAt W (.slice ae E ce) E 1 (ints en)
set_option maxRecDepth 100000 in
set_option maxHeartbeats 4000000 in
theorem Best_s1 {ls : List LakeM} {L H P E : Nat} {ti : List (List Int)} {pr en : List Int} {al ai ap ae : Option Addr} {cl ci cp ce : Nat} (W : World) (hA : BA ls L H P E ti pr en al ai ap ae cl ci cp ce W) (qs : sizedB L ti = false) :
    Calls Try.prog 27 #[.slice al L cl, .slice ai H ci, .slice ap P cp, .slice ae E ce] W (BadB W 2) := by
  obtain ⟨hL, hH, hP, hE, b1, b2, b3, b4, b5, h1, h2, h3, h4⟩ := hA
  have HS : Hid (∀ Wz, Below W.heap.size W Wz → Calls Try.prog 36 #[.slice al L cl, .slice ai H ci] Wz fun e w' => e = .returned (.bool false) ∧ Below Wz.heap.size Wz w') := fun Wz hb => by
    have h := sized_any L al cl ti (.slice ai H ci) Wz (h2.below hb (Nat.le_refl _)) (by omega) (by omega)
    rw [qs] at h; exact h
  obtain ⟨PO, hPO⟩ : ∃ P, P = (BadB W 2) := ⟨_, rfl⟩
  rw [← hPO]
  have HPO : Hid (∀ w', Below W.heap.size W w' → PO (.returned (.tuple #[.slice none 0 0, .int .i64 0, .int .i64 2])) w') := fun w' h => by rw [hPO]; exact ⟨rfl, h⟩
  have HB0 := hide' (Below.refl W.heap.size W)
  clear hPO h1 h2 h3 h4 b5 hL hH hP hE qs
  go_enter Try.func27, Try.ntmps27
  go_wp2_with fail
  refine (HS.out _ HB0.out).mono ?_
  rintro e w1 ⟨rfl, hb1⟩
  have HB1 := hide' (HB0.out.trans (hb1.mono HB0.out.size))
  clear hb1 HS HB0
  go_wp2_with fail
  first
  | exact HPO.out _ HB1.out
  | (go_ret3
     exact HPO.out _ HB1.out)
set_option maxRecDepth 100000 in
set_option maxHeartbeats 4000000 in
theorem Best_s2 {ls : List LakeM} {L H P E : Nat} {ti : List (List Int)} {pr en : List Int} {al ai ap ae : Option Addr} {cl ci cp ce : Nat} (W : World) (hA : BA ls L H P E ti pr en al ai ap ae cl ci cp ce W) (qs : sizedB L ti = true) (hx : P ≠ H) :
    Calls Try.prog 27 #[.slice al L cl, .slice ai H ci, .slice ap P cp, .slice ae E ce] W (BadB W 2) := by
  obtain ⟨hL, hH, hP, hE, b1, b2, b3, b4, b5, h1, h2, h3, h4⟩ := hA
  have HS : Hid (∀ Wz, Below W.heap.size W Wz → Calls Try.prog 36 #[.slice al L cl, .slice ai H ci] Wz fun e w' => e = .returned (.bool true) ∧ Below Wz.heap.size Wz w') := fun Wz hb => by
    have h := sized_any L al cl ti (.slice ai H ci) Wz (h2.below hb (Nat.le_refl _)) (by omega) (by omega)
    rw [qs] at h; exact h
  obtain ⟨PO, hPO⟩ : ∃ P, P = (BadB W 2) := ⟨_, rfl⟩
  rw [← hPO]
  have HPO : Hid (∀ w', Below W.heap.size W w' → PO (.returned (.tuple #[.slice none 0 0, .int .i64 0, .int .i64 2])) w') := fun w' h => by rw [hPO]; exact ⟨rfl, h⟩
  have hn1 : ((P : Int) != (H : Int)) = true := by simp; omega
  clear hx
  have HB0 := hide' (Below.refl W.heap.size W)
  clear hPO h1 h2 h3 h4 b5 hL hH hP hE qs
  go_enter Try.func27, Try.ntmps27
  go_wp2_with fail
  refine (HS.out _ HB0.out).mono ?_
  rintro e w1 ⟨rfl, hb1⟩
  have HB1 := hide' (HB0.out.trans (hb1.mono HB0.out.size))
  clear hb1 HS HB0
  go_wp2_with fail
  first
  | exact HPO.out _ HB1.out
  | (go_ret3
     exact HPO.out _ HB1.out)
set_option maxRecDepth 100000 in
set_option maxHeartbeats 4000000 in
theorem Best_s3 {ls : List LakeM} {L H P E : Nat} {ti : List (List Int)} {pr en : List Int} {al ai ap ae : Option Addr} {cl ci cp ce : Nat} (W : World) (hA : BA ls L H P E ti pr en al ai ap ae cl ci cp ce W) (qs : sizedB L ti = true) (hx : P = H) (hy : E ≠ L) :
    Calls Try.prog 27 #[.slice al L cl, .slice ai H ci, .slice ap P cp, .slice ae E ce] W (BadB W 2) := by
  obtain ⟨hL, hH, hP, hE, b1, b2, b3, b4, b5, h1, h2, h3, h4⟩ := hA
  have HS : Hid (∀ Wz, Below W.heap.size W Wz → Calls Try.prog 36 #[.slice al L cl, .slice ai H ci] Wz fun e w' => e = .returned (.bool true) ∧ Below Wz.heap.size Wz w') := fun Wz hb => by
    have h := sized_any L al cl ti (.slice ai H ci) Wz (h2.below hb (Nat.le_refl _)) (by omega) (by omega)
    rw [qs] at h; exact h
  obtain ⟨PO, hPO⟩ : ∃ P, P = (BadB W 2) := ⟨_, rfl⟩
  rw [← hPO]
  have HPO : Hid (∀ w', Below W.heap.size W w' → PO (.returned (.tuple #[.slice none 0 0, .int .i64 0, .int .i64 2])) w') := fun w' h => by rw [hPO]; exact ⟨rfl, h⟩
  have hn1 : ((P : Int) != (H : Int)) = false := by simp; omega
  have hn2 : ((E : Int) != (L : Int)) = true := by simp; omega
  clear hx hy
  have HB0 := hide' (Below.refl W.heap.size W)
  clear hPO h1 h2 h3 h4 b5 hL hH hP hE qs
  go_enter Try.func27, Try.ntmps27
  go_wp2_with fail
  refine (HS.out _ HB0.out).mono ?_
  rintro e w1 ⟨rfl, hb1⟩
  have HB1 := hide' (HB0.out.trans (hb1.mono HB0.out.size))
  clear hb1 HS HB0
  go_wp2_with fail
  first
  | exact HPO.out _ HB1.out
  | (go_ret3
     exact HPO.out _ HB1.out)
set_option maxRecDepth 100000 in
set_option maxHeartbeats 4000000 in
theorem Best_a {ls : List LakeM} {L H P E : Nat} {ti : List (List Int)} {pr en : List Int} {al ai ap ae : Option Addr} {cl ci cp ce : Nat} (W : World) (hA : BA ls L H P E ti pr en al ai ap ae cl ci cp ce W) (qs : sizedB L ti = true) (qa : ls.all lakeB = false) (hx : P = H) (hy : E = L) :
    Calls Try.prog 27 #[.slice al L cl, .slice ai H ci, .slice ap P cp, .slice ae E ce] W (BadB W 14) := by
  obtain ⟨hL, hH, hP, hE, b1, b2, b3, b4, b5, h1, h2, h3, h4⟩ := hA
  have HS : Hid (∀ Wz, Below W.heap.size W Wz → Calls Try.prog 36 #[.slice al L cl, .slice ai H ci] Wz fun e w' => e = .returned (.bool true) ∧ Below Wz.heap.size Wz w') := fun Wz hb => by
    have h := sized_any L al cl ti (.slice ai H ci) Wz (h2.below hb (Nat.le_refl _)) (by omega) (by omega)
    rw [qs] at h; exact h
  have HA : Hid (∀ Wz, Below W.heap.size W Wz → Calls Try.prog 37 #[.slice al L cl, .func (.func 38) #[] #[]] Wz fun e w' => e = .returned (.bool false) ∧ Below Wz.heap.size Wz w') := fun Wz hb => by
    have h := allLake_any ls (.slice al L cl) Wz (h1.below hb (Nat.le_refl _)) (by omega)
    rw [qa] at h; exact h
  obtain ⟨PO, hPO⟩ : ∃ P, P = (BadB W 14) := ⟨_, rfl⟩
  rw [← hPO]
  have HPO : Hid (∀ w', Below W.heap.size W w' → PO (.returned (.tuple #[.slice none 0 0, .int .i64 0, .int .i64 14])) w') := fun w' h => by rw [hPO]; exact ⟨rfl, h⟩
  have hn1 : ((P : Int) != (H : Int)) = false := by simp; omega
  have hn2 : ((E : Int) != (L : Int)) = false := by simp; omega
  clear hx hy
  have HB0 := hide' (Below.refl W.heap.size W)
  clear hPO h1 h2 h3 h4 b5 hL hH hP hE qs qa
  go_enter Try.func27, Try.ntmps27
  go_wp2_with fail
  refine (HS.out _ HB0.out).mono ?_
  rintro e w1 ⟨rfl, hb1⟩
  have HB1 := hide' (HB0.out.trans (hb1.mono HB0.out.size))
  clear hb1 HS HB0
  go_wp2_with fail
  refine (HA.out _ HB1.out).mono ?_
  rintro e w2 ⟨rfl, hb2⟩
  have HB2 := hide' (HB1.out.trans (hb2.mono HB1.out.size))
  clear hb2 HA HB1
  go_wp2_with fail
  first
  | exact HPO.out _ HB2.out
  | (go_ret3
     exact HPO.out _ HB2.out)
set_option maxRecDepth 100000 in
set_option maxHeartbeats 4000000 in
theorem Best_c {ls : List LakeM} {L H P E : Nat} {ti : List (List Int)} {pr en : List Int} {al ai ap ae : Option Addr} {cl ci cp ce : Nat} (W : World) (hA : BA ls L H P E ti pr en al ai ap ae cl ci cp ce W) (qs : sizedB L ti = true) (qa : ls.all lakeB = true) (qc : comeB ti = false) (hx : P = H) (hy : E = L) :
    Calls Try.prog 27 #[.slice al L cl, .slice ai H ci, .slice ap P cp, .slice ae E ce] W (BadB W 4) := by
  obtain ⟨hL, hH, hP, hE, b1, b2, b3, b4, b5, h1, h2, h3, h4⟩ := hA
  have HS : Hid (∀ Wz, Below W.heap.size W Wz → Calls Try.prog 36 #[.slice al L cl, .slice ai H ci] Wz fun e w' => e = .returned (.bool true) ∧ Below Wz.heap.size Wz w') := fun Wz hb => by
    have h := sized_any L al cl ti (.slice ai H ci) Wz (h2.below hb (Nat.le_refl _)) (by omega) (by omega)
    rw [qs] at h; exact h
  have HA : Hid (∀ Wz, Below W.heap.size W Wz → Calls Try.prog 37 #[.slice al L cl, .func (.func 38) #[] #[]] Wz fun e w' => e = .returned (.bool true) ∧ Below Wz.heap.size Wz w') := fun Wz hb => by
    have h := allLake_any ls (.slice al L cl) Wz (h1.below hb (Nat.le_refl _)) (by omega)
    rw [qa] at h; exact h
  have HC : Hid (∀ Wz, Below W.heap.size W Wz → Calls Try.prog 39 #[.slice ai H ci] Wz fun e w' => e = .returned (.bool false) ∧ Below Wz.heap.size Wz w') := fun Wz hb => by
    have h := mayCome_any ti (.slice ai H ci) Wz (h2.below hb (Nat.le_refl _)) (by omega) b5
    rw [qc] at h; exact h
  obtain ⟨PO, hPO⟩ : ∃ P, P = (BadB W 4) := ⟨_, rfl⟩
  rw [← hPO]
  have HPO : Hid (∀ w', Below W.heap.size W w' → PO (.returned (.tuple #[.slice none 0 0, .int .i64 0, .int .i64 4])) w') := fun w' h => by rw [hPO]; exact ⟨rfl, h⟩
  have hn1 : ((P : Int) != (H : Int)) = false := by simp; omega
  have hn2 : ((E : Int) != (L : Int)) = false := by simp; omega
  clear hx hy
  have HB0 := hide' (Below.refl W.heap.size W)
  clear hPO h1 h2 h3 h4 b5 hL hH hP hE qs qa qc
  go_enter Try.func27, Try.ntmps27
  go_wp2_with fail
  refine (HS.out _ HB0.out).mono ?_
  rintro e w1 ⟨rfl, hb1⟩
  have HB1 := hide' (HB0.out.trans (hb1.mono HB0.out.size))
  clear hb1 HS HB0
  go_wp2_with fail
  refine (HA.out _ HB1.out).mono ?_
  rintro e w2 ⟨rfl, hb2⟩
  have HB2 := hide' (HB1.out.trans (hb2.mono HB1.out.size))
  clear hb2 HA HB1
  go_wp2_with fail
  refine (HC.out _ HB2.out).mono ?_
  rintro e w3 ⟨rfl, hb3⟩
  have HB3 := hide' (HB2.out.trans (hb3.mono HB2.out.size))
  clear hb3 HC HB2
  go_wp2_with fail
  first
  | exact HPO.out _ HB3.out
  | (go_ret3
     exact HPO.out _ HB3.out)
set_option maxRecDepth 100000 in
set_option maxHeartbeats 4000000 in
theorem Best_p {ls : List LakeM} {L H P E : Nat} {ti : List (List Int)} {pr en : List Int} {al ai ap ae : Option Addr} {cl ci cp ce : Nat} (W : World) (hA : BA ls L H P E ti pr en al ai ap ae cl ci cp ce W) (qs : sizedB L ti = true) (qa : ls.all lakeB = true) (qc : comeB ti = true) (qp : (pr.all fun x => withinB x 0 1000) = false) (hx : P = H) (hy : E = L) :
    Calls Try.prog 27 #[.slice al L cl, .slice ai H ci, .slice ap P cp, .slice ae E ce] W (BadB W 4) := by
  obtain ⟨hL, hH, hP, hE, b1, b2, b3, b4, b5, h1, h2, h3, h4⟩ := hA
  have HS : Hid (∀ Wz, Below W.heap.size W Wz → Calls Try.prog 36 #[.slice al L cl, .slice ai H ci] Wz fun e w' => e = .returned (.bool true) ∧ Below Wz.heap.size Wz w') := fun Wz hb => by
    have h := sized_any L al cl ti (.slice ai H ci) Wz (h2.below hb (Nat.le_refl _)) (by omega) (by omega)
    rw [qs] at h; exact h
  have HA : Hid (∀ Wz, Below W.heap.size W Wz → Calls Try.prog 37 #[.slice al L cl, .func (.func 38) #[] #[]] Wz fun e w' => e = .returned (.bool true) ∧ Below Wz.heap.size Wz w') := fun Wz hb => by
    have h := allLake_any ls (.slice al L cl) Wz (h1.below hb (Nat.le_refl _)) (by omega)
    rw [qa] at h; exact h
  have HC : Hid (∀ Wz, Below W.heap.size W Wz → Calls Try.prog 39 #[.slice ai H ci] Wz fun e w' => e = .returned (.bool true) ∧ Below Wz.heap.size Wz w') := fun Wz hb => by
    have h := mayCome_any ti (.slice ai H ci) Wz (h2.below hb (Nat.le_refl _)) (by omega) b5
    rw [qc] at h; exact h
  have HP : Hid (∀ Wz, Below W.heap.size W Wz → Calls Try.prog 46 #[.slice ap P cp, .func (.func 47) #[] #[]] Wz fun e w' => e = .returned (.bool false) ∧ w' = Wz) := fun Wz hb => by
    have h := allInt_any (fun x => withinB x 0 1000) 47 cfw25 pr (.slice ap P cp) Wz (by rw [hP]; exact h3.below hb (Nat.le_refl _)) (by omega) worth_any
    rw [qp] at h; exact h
  obtain ⟨PO, hPO⟩ : ∃ P, P = (BadB W 4) := ⟨_, rfl⟩
  rw [← hPO]
  have HPO : Hid (∀ w', Below W.heap.size W w' → PO (.returned (.tuple #[.slice none 0 0, .int .i64 0, .int .i64 4])) w') := fun w' h => by rw [hPO]; exact ⟨rfl, h⟩
  have hn1 : ((P : Int) != (H : Int)) = false := by simp; omega
  have hn2 : ((E : Int) != (L : Int)) = false := by simp; omega
  clear hx hy
  have HB0 := hide' (Below.refl W.heap.size W)
  clear hPO h1 h2 h3 h4 b5 hL hH hP hE qs qa qc qp
  go_enter Try.func27, Try.ntmps27
  go_wp2_with fail
  refine (HS.out _ HB0.out).mono ?_
  rintro e w1 ⟨rfl, hb1⟩
  have HB1 := hide' (HB0.out.trans (hb1.mono HB0.out.size))
  clear hb1 HS HB0
  go_wp2_with fail
  refine (HA.out _ HB1.out).mono ?_
  rintro e w2 ⟨rfl, hb2⟩
  have HB2 := hide' (HB1.out.trans (hb2.mono HB1.out.size))
  clear hb2 HA HB1
  go_wp2_with fail
  refine (HC.out _ HB2.out).mono ?_
  rintro e w3 ⟨rfl, hb3⟩
  have HB3 := hide' (HB2.out.trans (hb3.mono HB2.out.size))
  clear hb3 HC HB2
  go_wp2_with fail
  refine (HP.out _ HB3.out).mono ?_
  rintro e w4 ⟨rfl, hw4⟩
  obtain rfl := hw4.symm
  have HB4 := hide' HB3.out
  clear HP HB3
  go_wp2_with fail
  first
  | exact HPO.out _ HB4.out
  | (go_ret3
     exact HPO.out _ HB4.out)
set_option maxRecDepth 100000 in
set_option maxHeartbeats 4000000 in
theorem Best_e {ls : List LakeM} {L H P E : Nat} {ti : List (List Int)} {pr en : List Int} {al ai ap ae : Option Addr} {cl ci cp ce : Nat} (W : World) (hA : BA ls L H P E ti pr en al ai ap ae cl ci cp ce W) (qs : sizedB L ti = true) (qa : ls.all lakeB = true) (qc : comeB ti = true) (qp : (pr.all fun x => withinB x 0 1000) = true) (qe : (en.all fun x => withinB x 0 1000) = false) (hx : P = H) (hy : E = L) :
    Calls Try.prog 27 #[.slice al L cl, .slice ai H ci, .slice ap P cp, .slice ae E ce] W (BadB W 4) := by
  obtain ⟨hL, hH, hP, hE, b1, b2, b3, b4, b5, h1, h2, h3, h4⟩ := hA
  have HS : Hid (∀ Wz, Below W.heap.size W Wz → Calls Try.prog 36 #[.slice al L cl, .slice ai H ci] Wz fun e w' => e = .returned (.bool true) ∧ Below Wz.heap.size Wz w') := fun Wz hb => by
    have h := sized_any L al cl ti (.slice ai H ci) Wz (h2.below hb (Nat.le_refl _)) (by omega) (by omega)
    rw [qs] at h; exact h
  have HA : Hid (∀ Wz, Below W.heap.size W Wz → Calls Try.prog 37 #[.slice al L cl, .func (.func 38) #[] #[]] Wz fun e w' => e = .returned (.bool true) ∧ Below Wz.heap.size Wz w') := fun Wz hb => by
    have h := allLake_any ls (.slice al L cl) Wz (h1.below hb (Nat.le_refl _)) (by omega)
    rw [qa] at h; exact h
  have HC : Hid (∀ Wz, Below W.heap.size W Wz → Calls Try.prog 39 #[.slice ai H ci] Wz fun e w' => e = .returned (.bool true) ∧ Below Wz.heap.size Wz w') := fun Wz hb => by
    have h := mayCome_any ti (.slice ai H ci) Wz (h2.below hb (Nat.le_refl _)) (by omega) b5
    rw [qc] at h; exact h
  have HP : Hid (∀ Wz, Below W.heap.size W Wz → Calls Try.prog 46 #[.slice ap P cp, .func (.func 47) #[] #[]] Wz fun e w' => e = .returned (.bool true) ∧ w' = Wz) := fun Wz hb => by
    have h := allInt_any (fun x => withinB x 0 1000) 47 cfw25 pr (.slice ap P cp) Wz (by rw [hP]; exact h3.below hb (Nat.le_refl _)) (by omega) worth_any
    rw [qp] at h; exact h
  have HE : Hid (∀ Wz, Below W.heap.size W Wz → Calls Try.prog 46 #[.slice ae E ce, .func (.func 47) #[] #[]] Wz fun e w' => e = .returned (.bool false) ∧ w' = Wz) := fun Wz hb => by
    have h := allInt_any (fun x => withinB x 0 1000) 47 cfw25 en (.slice ae E ce) Wz (by rw [hE]; exact h4.below hb (Nat.le_refl _)) (by omega) worth_any
    rw [qe] at h; exact h
  obtain ⟨PO, hPO⟩ : ∃ P, P = (BadB W 4) := ⟨_, rfl⟩
  rw [← hPO]
  have HPO : Hid (∀ w', Below W.heap.size W w' → PO (.returned (.tuple #[.slice none 0 0, .int .i64 0, .int .i64 4])) w') := fun w' h => by rw [hPO]; exact ⟨rfl, h⟩
  have hn1 : ((P : Int) != (H : Int)) = false := by simp; omega
  have hn2 : ((E : Int) != (L : Int)) = false := by simp; omega
  clear hx hy
  have HB0 := hide' (Below.refl W.heap.size W)
  clear hPO h1 h2 h3 h4 b5 hL hH hP hE qs qa qc qp qe
  go_enter Try.func27, Try.ntmps27
  go_wp2_with fail
  refine (HS.out _ HB0.out).mono ?_
  rintro e w1 ⟨rfl, hb1⟩
  have HB1 := hide' (HB0.out.trans (hb1.mono HB0.out.size))
  clear hb1 HS HB0
  go_wp2_with fail
  refine (HA.out _ HB1.out).mono ?_
  rintro e w2 ⟨rfl, hb2⟩
  have HB2 := hide' (HB1.out.trans (hb2.mono HB1.out.size))
  clear hb2 HA HB1
  go_wp2_with fail
  refine (HC.out _ HB2.out).mono ?_
  rintro e w3 ⟨rfl, hb3⟩
  have HB3 := hide' (HB2.out.trans (hb3.mono HB2.out.size))
  clear hb3 HC HB2
  go_wp2_with fail
  refine (HP.out _ HB3.out).mono ?_
  rintro e w4 ⟨rfl, hw4⟩
  obtain rfl := hw4.symm
  have HB4 := hide' HB3.out
  clear HP HB3
  go_wp2_with fail
  refine (HE.out _ HB4.out).mono ?_
  rintro e w5 ⟨rfl, hw5⟩
  obtain rfl := hw5.symm
  have HB5 := hide' HB4.out
  clear HE HB4
  go_wp2_with fail
  first
  | exact HPO.out _ HB5.out
  | (go_ret3
     exact HPO.out _ HB5.out)
/-- What Best answers. -/
def BestF (ls : List LakeM) (ti : List (List Int)) (pr en : List Int) (W : World) (e : Ending) (w' : World) : Prop :=
  (¬ (sizedB ls.length ti = true ∧ pr.length = ti.length ∧ en.length = ls.length) ∧ e = .returned (.tuple #[.slice none 0 0, .int .i64 0, .int .i64 2]) ∧ Below W.heap.size W w') ∨
  ((sizedB ls.length ti = true ∧ pr.length = ti.length ∧ en.length = ls.length) ∧ ls.all lakeB = false ∧ e = .returned (.tuple #[.slice none 0 0, .int .i64 0, .int .i64 14]) ∧ Below W.heap.size W w') ∨
  ((sizedB ls.length ti = true ∧ pr.length = ti.length ∧ en.length = ls.length) ∧ ls.all lakeB = true ∧ ¬ (comeB ti = true ∧ (pr.all fun x => withinB x 0 1000) = true ∧ (en.all fun x => withinB x 0 1000) = true) ∧ e = .returned (.tuple #[.slice none 0 0, .int .i64 0, .int .i64 4]) ∧ Below W.heap.size W w') ∨
  (PlanOk ls ls.length ti.length ti pr en ∧ BestG ls ls.length ti.length ti pr en W e w')
theorem Best_any {ls : List LakeM} {L H P E : Nat} {ti : List (List Int)} {pr en : List Int} {al ai ap ae : Option Addr} {cl ci cp ce : Nat} (W : World) (hA : BA ls L H P E ti pr en al ai ap ae cl ci cp ce W) :
    Calls Try.prog 27 #[.slice al L cl, .slice ai H ci, .slice ap P cp, .slice ae E ce] W (BestF ls ti pr en W) := by
  obtain ⟨hL, hH, hP, hE, _, _, _, _, _, h1, h2, h3, h4⟩ := id hA
  unfold BestF
  rw [hL, hH, hP, hE]
  cases qs : sizedB L ti with
  | false => exact (Best_s1 W hA qs).mono fun e w' h => .inl ⟨(fun q => by cases q.1), h⟩
  | true =>
    by_cases hx : P = H
    · by_cases hy : E = L
      · cases qa : ls.all lakeB with
        | false => exact (Best_a W hA qs qa hx hy).mono fun e w' h => .inr (.inl ⟨⟨rfl, hx, hy⟩, rfl, h⟩)
        | true =>
          cases qc : comeB ti with
          | false => exact (Best_c W hA qs qa qc hx hy).mono fun e w' h => .inr (.inr (.inl ⟨⟨rfl, hx, hy⟩, rfl, (fun q => by cases q.1), h⟩))
          | true =>
            cases qp : (pr.all fun x => withinB x 0 1000) with
            | false => exact (Best_p W hA qs qa qc qp hx hy).mono fun e w' h => .inr (.inr (.inl ⟨⟨rfl, hx, hy⟩, rfl, (fun q => by cases q.2.1), h⟩))
            | true =>
              cases qe : (en.all fun x => withinB x 0 1000) with
              | false => exact (Best_e W hA qs qa qc qp qe hx hy).mono fun e w' h => .inr (.inr (.inl ⟨⟨rfl, hx, hy⟩, rfl, (fun q => by cases q.2.2), h⟩))
              | true =>
                subst hx hy
                have s := sized_iff.1 qs
                have wi : ∀ {l : List Int}, (l.all fun x => withinB x 0 1000) = true → ∀ x ∈ l, 0 ≤ x ∧ x ≤ 1000 := fun h x hx => by
                  have := List.all_eq_true.1 h x hx
                  unfold withinB at this
                  simp only [Bool.and_eq_true, decide_eq_true_eq] at this
                  exact this
                have hp : PlanOk ls E P ti pr en := ⟨fun k hk => lakeB_iff.1 (List.all_eq_true.1 qa k hk), hL, s.1, by have := s.2.1; omega, hH, s.2.2, come_iff.1 qc, hP, wi qp, hE, wi qe⟩
                exact (Best_ok hp W h1 h2 h3 h4).mono fun e w' h => .inr (.inr (.inr ⟨hp, h⟩))
      · exact (Best_s3 W hA qs hx hy).mono fun e w' h => .inl ⟨fun q => hy q.2.2, h⟩
    · exact (Best_s2 W hA qs hx).mono fun e w' h => .inl ⟨fun q => hx q.2.1, h⟩
end Go.Proofs.Ytnhddmcdmcpkeaj
