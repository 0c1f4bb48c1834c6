/- Bytes of a slice as a text. -/
import Derived.Test.YtmcbeclkocjlkaaDoorGRows
import Derived.Test.YtmcbeclkocjlkaaDoorGBase
import Derived.Laws.BytesArg
import Derived.Deep.AppendLies
namespace Go.Proofs.YtmcbeclkocjlkaaDoor
set_option linter.unusedVariables false
set_option linter.unusedSimpArgs false
open Go Go.RowKit
def strOf (b : List Nat) : ByteArray := ⟨(b.map UInt8.ofNat).toArray⟩
theorem conv_bytes {w : World} {v : Value} {b : List Nat} (h : SlAt w v b.length (b.map byteV)) : (convert 26 9 v).run Tryd.prog w = .ok (.string (strOf b)) w := by
  obtain ⟨p, cap, rfl, _, _, hc⟩ := h
  have e : strOfNums (b.map Int.ofNat) = strOf b := by
    unfold strOfNums strOf
    rw [List.map_map]
    rfl
  cases p with
  | none =>
    have hb : b = [] := by
      rcases hc with hc | ⟨g, off, hp, _⟩
      · exact List.map_eq_nil_iff.1 hc
      · cases hp
    subst hb
    exact run_convert_bytes_nil w 26 5 Tryd.underlying26 Tryd.underlying5 _ _ 9 Tryd.underlying9
  | some ad =>
    have hl : (loadCells ad b.length).run Tryd.prog w = .ok ((b.map Int.ofNat).map (Value.int .u8)).toArray w := by
      have := run_loadCells_list (P := Tryd.prog) w ad ((b.map Int.ofNat).map (Value.int .u8)) (fun j u hj => by
        rcases hc with hc | ⟨g, off, hp, _, hc⟩
        · have : b = [] := List.map_eq_nil_iff.1 hc
          subst this
          simp at hj
        · cases hp
          rw [show (⟨g, off, none⟩ : Addr).add j = ⟨g, off + j, none⟩ by unfold Addr.add; split <;> simp_all]
          refine hc j u ?_
          rw [List.map_map] at hj
          exact hj)
      simpa using this
    rw [run_convert_bytes_string w 26 9 5 _ _ cap Tryd.underlying26 Tryd.underlying5 Tryd.underlying9, run_bytesToString w _ _ cap _ hl, foldl_push_bytes, ← e]
    simp [strOfNums, ByteArray.empty, ByteArray.emptyWithCapacity]
    rfl
theorem strOf_size (b : List Nat) : (strOf b).size = b.length := by
  show ((b.map UInt8.ofNat).toArray).size = _
  simp
end Go.Proofs.YtmcbeclkocjlkaaDoor
