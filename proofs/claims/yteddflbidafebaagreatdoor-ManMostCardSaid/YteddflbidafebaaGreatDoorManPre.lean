/- What is laid ahead of a call of man's, out of what the row lists and of the world's shape; ManMost at any numbers of its kinds. -/
import Derived.Test.YteddflbidafebaaGreatDoorManMostW
import Derived.Test.YteddflbidafebaaGreatDoorManPPar
import Derived.Test.YteddflbidafebaaGreatDoorGPreD
import Derived.Stop.Joined
import Derived.ChangeMaps5
import Derived.Deep.Slices
import Derived.Deep.Fields
namespace Go.Proofs.YteddflbidafebaaGreatDoor
set_option linter.unusedVariables false
set_option linter.unusedSimpArgs false
open Go.ChangeShapes Go.WideShapes Go.ChangeAt Go.RowKit Go.Deep
theorem mPreOk : OPreOk MPre := ⟨fun h k => h.keep k, fun h => h.1⟩
theorem mCellsStr : Tryz.prog.cellsOf 9 = 1 := by kernel_rfl
theorem mErNamed : Tryz.prog.globalNamed "strconv.ErrRange" = some 4 := by kernel_rfl
theorem mErType : (Tryz.prog.globals[4]?).map (·.type) = some 36 := by kernel_rfl
theorem mEsStar : "*" ++ "errors.errorString" = "*errors.errorString" := by decide
theorem mEsOne (u : TypeId) (h : Tryz.prog.typeName? 3 u = some "*errors.errorString") : u = 188 :=
  typeName_ptr_named (nm := "errors.errorString") (by rw [mEsStar]; kernel_rfl) (by kernel_rfl) (by decide) u (by rw [mEsStar]; exact h)
theorem rng_mem {W : World} {r : List (String × DataW Unit)} (h : laidMet Tryz.prog (("strconv.ErrRange", Rows.laid_strconv_ErrRange) :: r) W) : RngV W := by
  obtain ⟨a, s, h1, _⟩ := laid_sentinel h mErNamed mErType Tryz.underlying36 mEsOne Tryz.underlying188 Tryz.underlying190 rfl rfl Tryz.underlying9 (by kernel_rfl) mCellsStr
  have := World.var?_cell mErNamed h1 0
  exact ⟨_, by simpa using this, .inr ⟨_, _, rfl⟩⟩
theorem mPre_of {l : List (String × DataW Unit)} {W : World} (h : laidMetH Tryz.prog l W) (h1 : ("errors.errorType", Rows.laid_errors_errorType) ∈ l) (h2 : ("strconv.ErrRange", Rows.laid_strconv_ErrRange) ∈ l) (hS : W.ShapedOpen Tryz.prog) : MPre W := by
  refine ⟨errT_mem (laidH_handle h h1 rfl), ?_, Tryz.laysM147.s1_3 W hS⟩
  obtain ⟨r, hr⟩ := laidH_data h h2 rfl
  exact rng_mem hr
theorem manMost_walk (hP : PManParse MPre) (hT : PManText) (hI : PManIndex) (hC : PManCheck MPre) (a b c : Int) (ha : 0 ≤ a ∧ a ≤ 255) (hb : 0 ≤ b ∧ b ≤ 255) (hc : 0 ≤ c ∧ c ≤ 65535) (w : World) (hp : MPre w) :
    Calls Tryz.prog 3 #[.int .u8 a, .int .u8 b, .int .u16 c] w fun e w' => e = .returned (.bool true) ∧ Keep w w' := by
  obtain ⟨x, rfl⟩ : ∃ x : Nat, a = x := ⟨a.toNat, by omega⟩
  obtain ⟨y, rfl⟩ : ∃ y : Nat, b = y := ⟨b.toNat, by omega⟩
  obtain ⟨z, rfl⟩ : ∃ z : Nat, c = z := ⟨c.toNat, by omega⟩
  exact manMost_any mPreOk hP (fun w hp => mknown_any mPreOk hP hT hI hC w hp) x y z (by omega) (by omega) (by omega) w hp
end Go.Proofs.YteddflbidafebaaGreatDoor
