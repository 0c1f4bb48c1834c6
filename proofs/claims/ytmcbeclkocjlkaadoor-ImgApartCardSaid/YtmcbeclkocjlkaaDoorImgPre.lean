/- What is laid ahead of a call where errors.errorType alone is asked for; ImgCut, ImgApart at any numbers of their kinds. -/
import Derived.Test.YtmcbeclkocjlkaaDoorImgApartW
import Derived.Test.YtmcbeclkocjlkaaDoorImgKnown
import Derived.Test.YtmcbeclkocjlkaaDoorGPreD
namespace Go.Proofs.YtmcbeclkocjlkaaDoor
set_option linter.unusedVariables false
set_option linter.unusedSimpArgs false
open Go.ChangeShapes Go.WideShapes Go.ChangeAt Go.RowKit
theorem iPreOk : OPreOk ErrT := ⟨fun h k => h.keep k, fun h => h⟩
theorem iPre_of {l : List (String × DataW Unit)} {W : World} (h : laidMetH Tryd.prog l W) (h1 : ("errors.errorType", Rows.laid_errors_errorType) ∈ l) : ErrT W := errT_mem (laidH_handle h h1 rfl)
theorem imgApart_walk (hE : PImgEncode ErrT) (hD : PImgDecode ErrT) (hS : PImgSame) (hC : PImgCheck ErrT) (i : ImgV) (vp vs vi vb : Value) (ves : List Value) (a : Int) (ha : 0 ≤ a ∧ a ≤ 65535) (w : World) (h : ImgAt w i vp vs vi vb ves) (ho : ImgNum i)
    (m1 : i.parts.length ≤ maxLen) (m2 : i.shares.length ≤ maxLen) (m3 : i.inits.length ≤ maxLen) (m4 : i.bytes.length ≤ maxLen) (m5 : ∀ p ∈ i.parts, p.entries.length ≤ maxLen) (hp : ErrT w) :
    Calls Tryd.prog 3 #[imgVal i vp vs vi vb, .int .u16 a] w fun e w' => e = .returned (.bool true) ∧ Keep w w' := by
  obtain ⟨c, rfl⟩ : ∃ c : Nat, a = c := ⟨a.toNat, by omega⟩
  exact imgApart_any iPreOk hC (fun w hp => iknown_any iPreOk hE hD hS hC w hp) i vp vs vi vb ves c (by omega) w h ho m1 m2 m3 m4 m5 hp
end Go.Proofs.YtmcbeclkocjlkaaDoor
