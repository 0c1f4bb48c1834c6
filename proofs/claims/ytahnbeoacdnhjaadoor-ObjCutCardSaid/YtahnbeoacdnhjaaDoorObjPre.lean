/- What is laid ahead of a call where errors.errorType alone is asked for; ObjCut at any numbers of its kinds. -/
import Derived.Test.YtahnbeoacdnhjaaDoorObjCutW
import Derived.Test.YtahnbeoacdnhjaaDoorObjKnown
import Derived.Test.YtahnbeoacdnhjaaDoorGPreD
namespace Go.Proofs.YtahnbeoacdnhjaaDoor
set_option linter.unusedVariables false
set_option linter.unusedSimpArgs false
open Go.ChangeShapes Go.WideShapes Go.ChangeAt Go.RowKit
theorem oPreOk : OPreOk ErrT := ⟨fun h k => h.keep k, fun h => h⟩
theorem oPre_of {l : List (String × DataW Unit)} {W : World} (h : laidMetH Tryd.prog l W) (h1 : ("errors.errorType", Rows.laid_errors_errorType) ∈ l) : ErrT W := errT_mem (laidH_handle h h1 rfl)
theorem objCut_walk (hE : PObjEncode ErrT) (hD : PObjDecode ErrT) (hF : PObjFind) (hS : PObjSame) (hC : PObjCheck ErrT) (hN : PObjName) (o : ObjV) (vc vd vs vr : Value) (a b : Int) (ha : 0 ≤ a ∧ a ≤ 65535) (hb : 0 ≤ b ∧ b ≤ 255) (w : World) (h : ObjAt w o vc vd vs vr) (ho : ObjNum o)
    (m1 : o.code.length ≤ maxLen ∧ o.data.length ≤ maxLen) (m3 : o.syms.length ≤ maxLen) (m4 : o.rels.length ≤ maxLen) (hp : ErrT w) :
    Calls Tryd.prog 3 #[objVal o vc vd vs vr, .int .u16 a, .int .u8 b] w fun e w' => e = .returned (.bool true) ∧ Keep w w' := by
  obtain ⟨c, rfl⟩ : ∃ c : Nat, a = c := ⟨a.toNat, by omega⟩
  obtain ⟨m, rfl⟩ : ∃ m : Nat, b = m := ⟨b.toNat, by omega⟩
  exact objCut_any oPreOk hE hD (fun w hp => oknown_any oPreOk hE hD hF hS hC hN w hp) o vc vd vs vr c m (by omega) (by omega) w h ho m1.1 m1.2 m3 m4 hp
end Go.Proofs.YtahnbeoacdnhjaaDoor
