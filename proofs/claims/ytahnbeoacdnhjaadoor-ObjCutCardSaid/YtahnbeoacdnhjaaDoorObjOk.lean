/- Objects, plain: one that may be is such; the small one of known. -/
import Derived.Test.YtahnbeoacdnhjaaDoorObjMath
namespace Go.Proofs.YtahnbeoacdnhjaaDoor
set_option linter.unusedVariables false
set_option linter.unusedSimpArgs false
open Go.RowKit
theorem first_some {f : Nat → Int} : ∀ (n i k : Nat) (e : Int), firstE f n i = some (k, e) → e ≠ 0
  | 0, _, _, _, h => by cases h
  | n + 1, i, k, e, h => by
    unfold firstE at h
    split at h
    · exact first_some n (i + 1) k e h
    · rename_i hf
      simp only [Option.some.injEq, Prod.mk.injEq] at h
      rw [← h.2]; exact hf
theorem first_none {f : Nat → Int} : ∀ (n i : Nat), firstE f n i = none → ∀ j, i ≤ j → j < i + n → f j = 0
  | 0, _, _, _, _, _ => by omega
  | n + 1, i, h, j, h1, h2 => by
    unfold firstE at h
    split at h
    · rename_i hf
      by_cases e : j = i
      · subst e; exact hf
      · exact first_none n (i + 1) h j (by omega) (by omega)
    · cases h
theorem objW_ok {o : ObjV} (h : (objW o).2.2 = 0) (hs : ∀ s ∈ o.syms, SymOk s) (hr : ∀ r ∈ o.rels, 0 ≤ r.off ∧ r.off < 4294967296 ∧ 0 ≤ r.perm ∧ r.perm < 65536) : ObjOk o := by
  unfold objW at h
  by_cases h1 : goodB o.name = false
  · rw [if_pos h1] at h; cases h
  rw [if_neg h1] at h
  by_cases h2 : o.code.length > 16384
  · rw [if_pos h2] at h; cases h
  rw [if_neg h2] at h
  by_cases h3 : o.code.length % 4 ≠ 0
  · rw [if_pos h3] at h; cases h
  rw [if_neg h3] at h
  by_cases h4 : o.data.length > 16384
  · rw [if_pos h4] at h; cases h
  rw [if_neg h4] at h
  by_cases h5 : o.data.length % 16 ≠ 0
  · rw [if_pos h5] at h; cases h
  rw [if_neg h5] at h
  by_cases h6 : o.syms.length > 256
  · rw [if_pos h6] at h; cases h
  rw [if_neg h6] at h
  cases h7 : firstE (symE o) o.syms.length 0 with
  | some x => rw [h7] at h; exact absurd h (first_some _ _ _ _ h7)
  | none =>
    rw [h7] at h
    simp only at h
    by_cases h8 : o.rels.length > 256
    · rw [if_pos h8] at h; cases h
    rw [if_neg h8] at h
    cases h9 : firstE (relE o) o.rels.length 0 with
    | some x => rw [h9] at h; exact absurd h (first_some _ _ _ _ h9)
    | none =>
      refine ⟨by omega, by omega, by omega, by omega, hs, fun r hm => ?_⟩
      obtain ⟨j, hj, rfl⟩ := List.mem_iff_getElem.1 hm
      have hz := first_none _ _ h9 j (Nat.zero_le _) (by omega)
      unfold relE at hz
      rw [List.getElem?_eq_getElem hj] at hz
      simp only at hz
      obtain ⟨a, b, c, d⟩ := hr _ hm
      split at hz
      · cases hz
      · rename_i hk
        exact ⟨by omega, by omega, a, b, c, d⟩
/-- known's objects. -/
def kObj : ObjV := ⟨⟨#[97]⟩, [0, 0, 0, 67], List.replicate 16 0, [⟨⟨#[102]⟩, false, 0, true⟩], [⟨1, 0, ⟨#[]⟩, ⟨#[102]⟩, 5⟩]⟩
def kObj1 : ObjV := { kObj with name := ⟨#[49]⟩ }
theorem kW : objW kObj = okW := by kernel_rfl
theorem kW1 : objW kObj1 = (nameT, 0, 12) := by kernel_rfl
theorem kBack : decL (encL kObj) = .ok kObj := by kernel_rfl
theorem kCut : decL ((encL kObj).take 7) = .error (byteT, 7, 16) := by kernel_rfl
theorem kFind : findS kObj.syms ⟨#[102]⟩ = some ⟨⟨#[102]⟩, false, 0, true⟩ := by kernel_rfl
theorem kLen : (encL kObj).length = 61 := by kernel_rfl
theorem kGood : goodB ⟨#[97, 95, 49]⟩ = true ∧ goodB ⟨#[49]⟩ = false := ⟨by kernel_rfl, by kernel_rfl⟩
def wrVal (x : WrV) : Value := .agg #[.string x.1, .int .i64 x.2.1, .int .i64 x.2.2]
theorem first_go {f : Nat → Int} {n k : Nat} (h : k < n) (hz : f k = 0) : firstE f (n - k) k = firstE f (n - (k + 1)) (k + 1) := by
  rw [show n - k = (n - (k + 1)) + 1 by omega]
  conv => lhs; unfold firstE
  rw [if_pos hz]
theorem first_hit {f : Nat → Int} {n k : Nat} (h : k < n) (hz : f k ≠ 0) : firstE f (n - k) k = some (k, f k) := by
  rw [show n - k = (n - (k + 1)) + 1 by omega]
  conv => lhs; unfold firstE
  rw [if_neg hz]
end Go.Proofs.YtahnbeoacdnhjaaDoor
