/- The library's joining of words, laid at this program. -/
import Derived.Test.YtefkgllanghmfabDoorWr0
import Derived.Shelf.Strings.OnBuilder
import Derived.Test.YtefkgllanghmfabDoorSh0
namespace Go.Proofs.YtefkgllanghmfabDoor
open Go.RowKit Go.Shelf

def ren0 : Go.Shelf.Ren := ⟨fun | 156 => 30 | 165 => 47 | 166 => 29 | 169 => 19 | 240 => 46 | 241 => 58 | 276 => 57 | 277 => 69 | n => n, fun | 31 => 26 | 37 => 56 | 70 => 57 | 72 => 59 | 75 => 84 | 76 => 85 | 80 => 68 | 127 => 90 | 164 => 108 | n => n, fun | n => n⟩
theorem lays156 : Go.Proofs.Lays.n156 Tryd.prog ren0 := {
  mixed := by kernel_rfl
  f156 := Tryd.func30.trans (congrArg some (by kernel_rfl))
  f165 := Tryd.func47.trans (congrArg some (by kernel_rfl))
  f166 := Tryd.func29.trans (congrArg some (by kernel_rfl))
  f169 := Tryd.func19.trans (congrArg some (by kernel_rfl))
  f240 := Tryd.func46.trans (congrArg some (by kernel_rfl))
  f241 := Tryd.func58.trans (congrArg some (by kernel_rfl))
  f276 := Tryd.func57.trans (congrArg some (by kernel_rfl))
  f277 := Tryd.func69.trans (congrArg some (by kernel_rfl))
  t0 := Go.Proofs.Tryd.underlying0
  a0 := Go.Proofs.Tryd.isAgg0
  z0 := Go.Proofs.Tryd.sizeOf0
  v0 := Go.Proofs.Tryd.zeroValue0
  t3 := Go.Proofs.Tryd.underlying3
  a3 := Go.Proofs.Tryd.isAgg3
  z3 := Go.Proofs.Tryd.sizeOf3
  v3 := Go.Proofs.Tryd.zeroValue3
  t4 := Go.Proofs.Tryd.underlying4
  a4 := Go.Proofs.Tryd.isAgg4
  z4 := Go.Proofs.Tryd.sizeOf4
  v4 := Go.Proofs.Tryd.zeroValue4
  t9 := Go.Proofs.Tryd.underlying9
  a9 := Go.Proofs.Tryd.isAgg9
  z9 := Go.Proofs.Tryd.sizeOf9
  v9 := Go.Proofs.Tryd.zeroValue9
  t20 := Go.Proofs.Tryd.underlying20
  a20 := Go.Proofs.Tryd.isAgg20
  z20 := Go.Proofs.Tryd.sizeOf20
  v20 := Go.Proofs.Tryd.zeroValue20
  t31 := Go.Proofs.Tryd.underlying26
  a31 := Go.Proofs.Tryd.isAgg26
  z31 := Go.Proofs.Tryd.sizeOf26
  v31 := Go.Proofs.Tryd.zeroValue26
  t37 := Go.Proofs.Tryd.underlying56
  a37 := Go.Proofs.Tryd.isAgg56
  z37 := Go.Proofs.Tryd.sizeOf56
  v37 := Go.Proofs.Tryd.zeroValue56
  t70 := Go.Proofs.Tryd.underlying57
  a70 := Go.Proofs.Tryd.isAgg57
  z70 := Go.Proofs.Tryd.sizeOf57
  v70 := Go.Proofs.Tryd.zeroValue57
  t72 := Go.Proofs.Tryd.underlying59
  a72 := Go.Proofs.Tryd.isAgg59
  z72 := Go.Proofs.Tryd.sizeOf59
  v72 := Go.Proofs.Tryd.zeroValue59
  t75 := Go.Proofs.Tryd.underlying84
  a75 := Go.Proofs.Tryd.isAgg84
  z75 := Go.Proofs.Tryd.sizeOf84
  v75 := Go.Proofs.Tryd.zeroValue84
  t76 := Go.Proofs.Tryd.underlying85
  a76 := Go.Proofs.Tryd.isAgg85
  z76 := Go.Proofs.Tryd.sizeOf85
  v76 := Go.Proofs.Tryd.zeroValue85
  t127 := Go.Proofs.Tryd.underlying90
  a127 := Go.Proofs.Tryd.isAgg90
  z127 := Go.Proofs.Tryd.sizeOf90
  v127 := Go.Proofs.Tryd.zeroValue90
  t164 := Go.Proofs.Tryd.underlying108
  a164 := Go.Proofs.Tryd.isAgg108
  z164 := Go.Proofs.Tryd.sizeOf108
  v164 := Go.Proofs.Tryd.zeroValue108 }
theorem extra156 : Builder.Extra Tryd.prog ren0 := {
  sizeBuilder := by kernel_rfl
  liesBuilder := by kernel_rfl
  t5 := Go.Proofs.Tryd.underlying5
  a5 := Go.Proofs.Tryd.isAgg5
  z5 := Go.Proofs.Tryd.sizeOf5
  v5 := Go.Proofs.Tryd.zeroValue5
  infoByte := by kernel_rfl
  cellsByte := by kernel_rfl
  sizeByte := by kernel_rfl
  neB5 := by decide }
theorem join_lib : ∀ (xs : List ByteArray), Lib.join (xs.map (·.data.toList)) [32] = joinW (xs.map bytesOf)
  | [] => rfl
  | [x] => by rw [List.map_cons, List.map_nil, Lib.join_one]; rfl
  | x :: y :: r => by
    have e : Lib.join ((x :: y :: r).map (·.data.toList)) [32] = x.data.toList ++ 32 :: Lib.join ((y :: r).map (·.data.toList)) [32] := by simp [Lib.join, List.intercalate]
    rw [e, join_lib (y :: r)]
    rfl
theorem join_any (bk o c : Nat) (xs : List ByteArray) (w : World) (hc : ∀ (j : Nat) x, xs[j]? = some x → w.cell? ⟨bk, o + j, none⟩ = some (.string x)) (hbk : bk < w.heap.size) (hN : xs.length ≤ 10) (hcap : xs.length ≤ c) (hlen : (lineT xs).length ≤ 100000) :
    Calls Tryd.prog 30 #[.slice (some ⟨bk, o, none⟩) xs.length c, .string ⟨#[32]⟩] w fun e w' => e = .returned (.string (textOf (lineT xs))) ∧ Below w.heap.size w w' := by
  have h := Any.strings_Join lays156 extra156 bk o c xs ⟨#[32]⟩ w hc hbk (by omega) hcap (by rw [show (⟨#[32]⟩ : ByteArray).data.toList = [32] from rfl, join_lib]; unfold lineT at hlen; omega)
  rw [show (⟨#[32]⟩ : ByteArray).data.toList = [32] from rfl, join_lib] at h
  exact h
end Go.Proofs.YtefkgllanghmfabDoor
