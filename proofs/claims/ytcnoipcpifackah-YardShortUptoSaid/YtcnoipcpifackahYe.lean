/- All that may be wrong with moving a device, in the program. -/
import Derived.Test.YtcnoipcpifackahYd
namespace Go.Proofs.Ytcnoipcpifackah
open Go.RowKit Go.Shelf

def earthF (B V K : Nat) : Value := .func (.func 50) #[] #[.pointer (some ⟨V, 0, none⟩), .pointer (some ⟨B, 0, none⟩), .pointer (some ⟨K, 0, none⟩)]
def loadF (B V K : Nat) : Value := .func (.func 48) #[] #[.pointer (some ⟨B, 0, none⟩), .pointer (some ⟨V, 0, none⟩), .pointer (some ⟨K, 0, none⟩)]
def liveF (B V : Nat) : Value := .func (.func 51) #[] #[.pointer (some ⟨V, 0, none⟩), .pointer (some ⟨B, 0, none⟩)]
def wrongF (kd : Int) (B V K : Nat) : List Value := if kd = 1 then [earthF B V K] else if kd = 2 then [loadF B V K, earthF B V K] else [liveF B V]
/-- What wrongs answers. -/
def WrongsO (y : YardM) (p : Places) (k : Nat) (w : World) (e : Ending) (w' : World) : Prop :=
  ∃ B V K F, e = .returned (.slice (some ⟨F, 0, none⟩) (wrongF (y.dev k).kind B V K).length (wrongF (y.dev k).kind B V K).length) ∧ w'.heap[F]? = some (.cells (wrongF (y.dev k).kind B V K).toArray 65 (0, 0)) ∧ Caught w' y p k B V K ∧ Below w.heap.size w w'
set_option maxRecDepth 100000 in
set_option maxHeartbeats 1000000 in
theorem wrongs_any (y : YardM) (hm : MayY y) (p : Places) (k : Nat) (w : World) (hw : WorkAt w y p) (hk : k < y.devs.length) : Calls Try.prog 31 #[workV y p, .int .i64 k] w (WrongsO y p k w) := by
  have HWO : Hid (∀ e w', (∃ B V K F, e = .returned (.slice (some ⟨F, 0, none⟩) (wrongF (y.dev k).kind B V K).length (wrongF (y.dev k).kind B V K).length) ∧ w'.heap[F]? = some (.cells (wrongF (y.dev k).kind B V K).toArray 65 (0, 0)) ∧ Caught w' y p k B V K ∧ Below w.heap.size w w') → WrongsO y p k w e w') := fun _ _ h => h
  obtain ⟨R, hR⟩ : ∃ R, R = WrongsO y p k w := ⟨_, rfl⟩
  rw [← hR] at HWO ⊢
  rw [workV_is]
  have HWC : Hid (workC y p = #[.int .i64 y.points, .slice p.af y.fed.length p.cf, .slice p.ad y.drawn.length p.cd, .slice p.as' y.devs.length p.cs, .slice (some ⟨p.G, 0, none⟩) y.n p.cg, .slice (some ⟨p.L, 0, none⟩) y.n y.n, .slice (some ⟨p.E, 0, none⟩) y.n y.n, .slice (some ⟨p.D, 0, none⟩) y.n y.n]) := rfl
  rw [HWC.out]
  have HW := hide' hw
  have HM := hide' hm
  have HK := hide' hk
  have hd10 := hm.d
  have hrs : RowAt w (.slice p.as' y.devs.length p.cs) y.devs.length 4 (y.devs.flatMap DevM.cells) := hw.yard.s
  obtain ⟨bt, ot, ct, ex, hbt, hct⟩ := row_elem (f := DevM.cells) (xs := y.devs) (fun _ => rfl) hrs k hk (by decide)
  obtain ⟨u, hu⟩ : ∃ u, u = y.devs[k]'hk := ⟨_, rfl⟩
  rw [← hu] at hct
  have hdv : y.devs[k]'hk = y.dev k := by have := (dev_get hk).1; rw [List.getElem?_eq_getElem hk] at this; exact Option.some.inj this
  rw [← hu] at hdv
  rw [hdv] at hct
  have HKD : Hid ((y.dev k).kind = 1 ∨ (y.dev k).kind = 2 ∨ (y.dev k).kind = 3) := by rcases hm.o _ (dev_get hk).2 with ⟨h1 | h1, _⟩ | ⟨h1, _⟩; exact .inl h1; exact .inr (.inl h1); exact .inr (.inr h1)
  have HVC : Hid ((y.dev k).cells.toArray = #[.int .i64 (y.dev k).kind, .int .i64 (y.dev k).a, .int .i64 (y.dev k).b, .bool (y.dev k).shut]) := rfl
  have d0 := hct 0 _ rfl
  have d1 := hct 1 _ rfl
  have d2 := hct 2 _ rfl
  have d3 := hct 3 _ rfl
  rw [Nat.add_zero] at d0
  simp only [Value.slice.injEq] at ex
  obtain ⟨exa, _, exc⟩ := ex
  obtain ⟨af, hafe⟩ : ∃ x, x = p.af := ⟨_, rfl⟩
  obtain ⟨ad, hade⟩ : ∃ x, x = p.ad := ⟨_, rfl⟩
  obtain ⟨as', hase⟩ : ∃ x, x = p.as' := ⟨_, rfl⟩
  obtain ⟨cf, hcf⟩ : ∃ x, x = p.cf := ⟨_, rfl⟩
  obtain ⟨cd, hcd⟩ : ∃ x, x = p.cd := ⟨_, rfl⟩
  obtain ⟨cs, hcs⟩ : ∃ x, x = p.cs := ⟨_, rfl⟩
  obtain ⟨G, hG⟩ : ∃ x, x = p.G := ⟨_, rfl⟩
  obtain ⟨cg, hcg⟩ : ∃ x, x = p.cg := ⟨_, rfl⟩
  obtain ⟨L, hL⟩ : ∃ x, x = p.L := ⟨_, rfl⟩
  obtain ⟨E, hE⟩ : ∃ x, x = p.E := ⟨_, rfl⟩
  obtain ⟨D, hD⟩ : ∃ x, x = p.D := ⟨_, rfl⟩
  obtain ⟨lf, hlf⟩ : ∃ l, l = y.fed.length := ⟨_, rfl⟩
  obtain ⟨ld, hld⟩ : ∃ l, l = y.drawn.length := ⟨_, rfl⟩
  obtain ⟨ls, hls⟩ : ∃ l, l = y.devs.length := ⟨_, rfl⟩
  obtain ⟨pt, hpt⟩ : ∃ p, p = y.points := ⟨_, rfl⟩
  obtain ⟨nn, hnn⟩ : ∃ p, p = y.n := ⟨_, rfl⟩
  rw [← hafe, ← hade, ← hase, ← hcf, ← hcd, ← hcs, ← hG, ← hcg, ← hL, ← hE, ← hD, ← hlf, ← hld, ← hls, ← hpt, ← hnn]
  rw [← hafe, ← hade, ← hase, ← hcf, ← hcd, ← hcs, ← hG, ← hcg, ← hL, ← hE, ← hD, ← hlf, ← hld, ← hls, ← hpt, ← hnn] at HWC
  rw [← hase] at exa
  rw [← hls] at hk hd10
  obtain ⟨kd, hkd⟩ : ∃ x, x = (y.dev k).kind := ⟨_, rfl⟩
  obtain ⟨xa, hxa⟩ : ∃ x, x = (y.dev k).a := ⟨_, rfl⟩
  obtain ⟨xb, hxb⟩ : ∃ x, x = (y.dev k).b := ⟨_, rfl⟩
  obtain ⟨xs, hxs⟩ : ∃ x, x = (y.dev k).shut := ⟨_, rfl⟩
  rw [← hkd] at d0 HWO HKD
  rw [← hxa] at d1
  rw [← hxb] at d2
  rw [← hxs] at d3
  rw [← hkd, ← hxa, ← hxb, ← hxs] at HVC
  subst exa
  clear hw hm hct hbt hu hdv exc hrs hafe hade hase hcf hcd hcs hG hcg hL hE hD hlf hld hls hpt hnn hkd hxa hxb hxs hR
  have l0 : ∀ o o2, ((w.alloc o).alloc o2).cell? ⟨bt, ot + k * 4, none⟩ = some (.int .i64 kd) := fun o o2 => later (later d0 o) o2
  have l1 : ∀ o o2, ((w.alloc o).alloc o2).cell? ⟨bt, ot + k * 4 + 1, none⟩ = some (.int .i64 xa) := fun o o2 => later (later d1 o) o2
  have l2 : ∀ o o2, ((w.alloc o).alloc o2).cell? ⟨bt, ot + k * 4 + 2, none⟩ = some (.int .i64 xb) := fun o o2 => later (later d2 o) o2
  have l3 : ∀ o o2, ((w.alloc o).alloc o2).cell? ⟨bt, ot + k * 4 + 3, none⟩ = some (.bool xs) := fun o o2 => later (later d3 o) o2
  go_enter Try.func31, Try.ntmps31
  go_upto_region 5 with fail
  have HCA0 : Hid (Caught (((w.alloc (.cells #[.int .i64 pt, .slice af lf cf, .slice ad ld cd, .slice (some ⟨bt, ot, none⟩) ls cs, .slice (some ⟨G, 0, none⟩) nn cg, .slice (some ⟨L, 0, none⟩) nn nn, .slice (some ⟨E, 0, none⟩) nn nn, .slice (some ⟨D, 0, none⟩) nn nn] 50)).alloc (.cells #[.int .i64 k] 3)).alloc (.cells #[.int .i64 kd, .int .i64 xa, .int .i64 xb, .bool xs] 45)) y p k w.heap.size (w.heap.size + 1 + 1) (w.heap.size + 1)) := by
    have hb : Below w.heap.size w (((w.alloc (.cells #[.int .i64 pt, .slice af lf cf, .slice ad ld cd, .slice (some ⟨bt, ot, none⟩) ls cs, .slice (some ⟨G, 0, none⟩) nn cg, .slice (some ⟨L, 0, none⟩) nn nn, .slice (some ⟨E, 0, none⟩) nn nn, .slice (some ⟨D, 0, none⟩) nn nn] 50)).alloc (.cells #[.int .i64 k] 3)).alloc (.cells #[.int .i64 kd, .int .i64 xa, .int .i64 xb, .bool xs] 45)) := ((below_al w _).alloc (by simp) _).alloc (by simp; omega) _
    have h2 := alloc_new (w.alloc (.cells #[.int .i64 pt, .slice af lf cf, .slice ad ld cd, .slice (some ⟨bt, ot, none⟩) ls cs, .slice (some ⟨G, 0, none⟩) nn cg, .slice (some ⟨L, 0, none⟩) nn nn, .slice (some ⟨E, 0, none⟩) nn nn, .slice (some ⟨D, 0, none⟩) nn nn] 50)) (.cells #[.int .i64 k] 3)
    have h3 := alloc_new ((w.alloc (.cells #[.int .i64 pt, .slice af lf cf, .slice ad ld cd, .slice (some ⟨bt, ot, none⟩) ls cs, .slice (some ⟨G, 0, none⟩) nn cg, .slice (some ⟨L, 0, none⟩) nn nn, .slice (some ⟨E, 0, none⟩) nn nn, .slice (some ⟨D, 0, none⟩) nn nn] 50)).alloc (.cells #[.int .i64 k] 3)) (.cells #[.int .i64 kd, .int .i64 xa, .int .i64 xb, .bool xs] 45)
    rw [World.size_alloc] at h2
    rw [World.size_alloc, World.size_alloc] at h3
    refine ⟨?_, ?_, (alloc_old _ _ (by simp)).trans h2, HW.out.below hb (Nat.le_refl _), HM.out, HK.out⟩
    · rw [HWC.out]
      exact (alloc_old _ _ (by simp; omega)).trans ((alloc_old _ _ (by simp)).trans (alloc_new _ _))
    · rw [HVC.out]
      exact h3
  have HBW0 : Hid (Below w.heap.size w (((w.alloc (.cells #[.int .i64 pt, .slice af lf cf, .slice ad ld cd, .slice (some ⟨bt, ot, none⟩) ls cs, .slice (some ⟨G, 0, none⟩) nn cg, .slice (some ⟨L, 0, none⟩) nn nn, .slice (some ⟨E, 0, none⟩) nn nn, .slice (some ⟨D, 0, none⟩) nn nn] 50)).alloc (.cells #[.int .i64 k] 3)).alloc (.cells #[.int .i64 kd, .int .i64 xa, .int .i64 xb, .bool xs] 45))) := ((below_al w _).alloc (by simp) _).alloc (by simp; omega) _
  have HV3 := hide' (alloc_new ((w.alloc (.cells #[.int .i64 pt, .slice af lf cf, .slice ad ld cd, .slice (some ⟨bt, ot, none⟩) ls cs, .slice (some ⟨G, 0, none⟩) nn cg, .slice (some ⟨L, 0, none⟩) nn nn, .slice (some ⟨E, 0, none⟩) nn nn, .slice (some ⟨D, 0, none⟩) nn nn] 50)).alloc (.cells #[.int .i64 k] 3)) (.cells #[.int .i64 kd, .int .i64 xa, .int .i64 xb, .bool xs] 45))
  rw [World.size_alloc, World.size_alloc] at HV3
  obtain ⟨w1, hw1⟩ : ∃ x, x = ((w.alloc (.cells #[.int .i64 pt, .slice af lf cf, .slice ad ld cd, .slice (some ⟨bt, ot, none⟩) ls cs, .slice (some ⟨G, 0, none⟩) nn cg, .slice (some ⟨L, 0, none⟩) nn nn, .slice (some ⟨E, 0, none⟩) nn nn, .slice (some ⟨D, 0, none⟩) nn nn] 50)).alloc (.cells #[.int .i64 k] 3)).alloc (.cells #[.int .i64 kd, .int .i64 xa, .int .i64 xb, .bool xs] 45) := ⟨_, rfl⟩
  rw [← hw1] at HCA0 HBW0 HV3 ⊢
  obtain ⟨V, hV⟩ : ∃ S, S = w.heap.size + 1 + 1 := ⟨_, rfl⟩
  rw [← hV] at HCA0 HV3 ⊢
  obtain ⟨K, hK⟩ : ∃ S, S = w.heap.size + 1 := ⟨_, rfl⟩
  rw [← hK] at HCA0 ⊢
  obtain ⟨B, hB⟩ : ∃ S, S = w.heap.size := ⟨_, rfl⟩
  have HCA : Hid (Caught w1 y p k B V K) := by rw [hB]; exact HCA0
  rw [show (Value.pointer (some { block := w.heap.size, off := 0 })) = Value.pointer (some { block := B, off := 0 }) by rw [hB]]
  have v0 : w1.cell? ⟨V, 0, none⟩ = some (.int .i64 kd) := (cells_at HV3.out 0).trans rfl
  clear hw1 hV hK hB HCA0 l0 l1 l2 l3 d0 d1 d2 d3
  have HFIN : Hid (∀ o, Caught (w1.alloc o) y p k B V K ∧ Below w.heap.size w (w1.alloc o)) := fun o => ⟨HCA.out.below (below_al _ o), HBW0.out.alloc HBW0.out.size o⟩
  rcases HKD.out with h1 | h1 | h1
  · subst h1
    clear HKD
    go_wp2
    exact HWO.out _ _ ⟨B, V, K, w1.heap.size, rfl, alloc_new _ _, (HFIN.out _).1, (HFIN.out _).2⟩
  · subst h1
    clear HKD
    go_wp2
    exact HWO.out _ _ ⟨B, V, K, w1.heap.size, rfl, alloc_new _ _, (HFIN.out _).1, (HFIN.out _).2⟩
  · subst h1
    clear HKD
    go_wp2
    exact HWO.out _ _ ⟨B, V, K, w1.heap.size, rfl, alloc_new _ _, (HFIN.out _).1, (HFIN.out _).2⟩
end Go.Proofs.Ytcnoipcpifackah
