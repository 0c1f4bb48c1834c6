/- errors.Is of no error, of a *strconv.NumError that wraps ErrRange, and ErrRange; strconv.ParseUint at 40 bits, of digits alone. -/
import Derived.Test.YtcdepfdfemmfhaaDoorLexPU
import Derived.Test.YtcdepfdfemmfhaaDoorGBase
import Derived.LaidEql
import Derived.Stop.Asserts
import Derived.RowKitTokens
namespace Go.Proofs.YtcdepfdfemmfhaaDoor
set_option linter.unusedVariables false
set_option linter.unusedSimpArgs false
open Go.RowKit Go.Extern.Stop Go.Stop Go.Extern Go.Shelf
theorem esTypeOf (v : Value) (w : World) : (callFunc 28 #[.iface 130 v]).run Tryd.prog w = .ok (.value (.iface 84 (.agg #[.pointer (some ⟨6, 130, none⟩)]))) w := by kernel_rfl
theorem esComparable (w : World) : (callFunc 94 #[.agg #[.pointer (some ⟨6, 130, none⟩)]]).run Tryd.prog w = .ok (.value (.bool true)) w := by kernel_rfl
theorem esMethod (d : Nat) (v : Value) (w : World) : (Go.method (d + 1) 84 v "Comparable").run Tryd.prog w = .ok (94, v) w := by kernel_rfl
theorem esComp : (Tryd.prog.info? 130).map (·.comparable) = some true := by kernel_rfl
theorem esSize : (Tryd.prog.info? 132).map (·.size) = some 1 := by kernel_rfl
theorem noIsNum (v : Value) (xT : TypeId) (w : World) : (Instr.typeAssert (.iface 121 v) xT 96 true).run Tryd.prog w = .ok (.tuple #[.nilIface, .bool false]) w := run_typeAssert_lacksB Tryd.underlying96 (by kernel_rfl) (by kernel_rfl) v xT w
theorem hasUnwrapNum (v : Value) (xT : TypeId) (w : World) : (Instr.typeAssert (.iface 121 v) xT 91 true).run Tryd.prog w = .ok (.tuple #[.iface 121 v, .bool true]) w := run_typeAssert_hasB Tryd.underlying91 (by kernel_rfl) v xT w
theorem methodUnwrapNum (d : Nat) (v : Value) (w : World) : (Go.method (d + 1) 121 v "Unwrap").run Tryd.prog w = .ok (105, v) w := by kernel_rfl
def esV (a : Addr) : Value := .iface 130 (.pointer (some a))
def numErrV (N : Nat) : Value := .iface 121 (.pointer (some ⟨N, 0, none⟩))
theorem isr_nil (b : Addr) (w : World) : Calls Tryd.prog 16 #[.nilIface, esV b] w fun e w' => e = .returned (.bool false) ∧ w = w' := by
  unfold esV
  have hn := run_eql_iface_nil_left (P := Tryd.prog) w 130 (.pointer (some b)) Tryd.underlying29
  go_enter Tryd.func16, Tryd.ntmps16
  go_wp2
  go_ret
  exact ⟨rfl, rfl⟩
set_option maxHeartbeats 2000000 in
theorem isr_num (N : Nat) (f s : ByteArray) (b : Addr) (w : World) (hB : Box w N #[.string f, .string s, esV b]) : Calls Tryd.prog 16 #[numErrV N, esV b] w fun e w' => e = .returned (.bool true) ∧ w = w' := by
  unfold esV at hB
  unfold esV numErrV
  have h1 := hB.cells
  obtain ⟨i, hi, hcmp⟩ := Option.map_eq_some_iff.1 esComp
  obtain ⟨j, hj, hjs⟩ := Option.map_eq_some_iff.1 esSize
  have h8 := esTypeOf
  have h32 := esComparable
  have mR := esMethod
  have nW := noIsNum
  have uW := hasUnwrapNum
  have mU := methodUnwrapNum
  have heq := run_eql_iface_ptr_same (P := Tryd.prog) w b Tryd.underlying29 Tryd.underlying130 hi hcmp hj
  have hty := run_eql_iface_types (P := Tryd.prog) 121 130 (.pointer (some ⟨N, 0, none⟩)) (.pointer (some b)) Tryd.underlying29 (by decide) w
  go_enter Tryd.func16, Tryd.ntmps16
  go_wp2
  refine wp_loop_rounds 2 ?_
  rw [rounds_succ]
  go_wp2
  rw [rounds_succ]
  go_wp2
  go_ret
  exact ⟨rfl, rfl⟩
/-- The variable strconv.ErrRange as it is laid. -/
def ErrG (w : World) (b : Addr) : Prop := w.cell? ⟨1, 0, none⟩ = some (esV b)
theorem ErrG.keep {w w' : World} {b : Addr} (h : ErrG w b) (k : Keep w w') : ErrG w' b := k.cellOf h
theorem Keep.bytes (w : World) (t : TypeId) (s : ByteArray) : Keep w (Lib.bytesWorld w t s) := by
  refine ⟨rfl, rfl, rfl, ?_, ?_⟩
  · rw [Lib.bytesWorld_size]; omega
  · intro k hk
    exact Lib.bytesWorld_at_old w t s k hk
/-- What the public ParseUint answers, by the digits. -/
def PuR (B : Int) (l : List UInt8) (b : Addr) (e : Ending) (w' : World) : Prop :=
  ((numRun B l 0).2 < lxBig ∧ e = .returned (.tuple #[.int .u64 (numRun B l 0).2, .nilIface])) ∨
  (¬ (numRun B l 0).2 < lxBig ∧ ∃ N f s, e = .returned (.tuple #[.int .u64 1099511627775, numErrV N]) ∧ Box w' N #[.string f, .string s, esV b])
def puS : ByteArray := ⟨#[80, 97, 114, 115, 101, 85, 105, 110, 116]⟩
set_option maxHeartbeats 2000000 in
theorem ppublic_any (B : Int) (t : ByteArray) (ht : t.size ≤ 1000000) (b : Addr) (hC : ∀ W, Calls Tryd.prog 53 #[.string t, .int .i64 B, .int .i64 40] W fun e w' => e = .returned (puV B t.data.toList) ∧ w' = Lib.bytesWorld W 5 t) (w : World) (hG : ErrG w b) :
    Calls Tryd.prog 46 #[.string t, .int .i64 B, .int .i64 40] w fun e w' => PuR B t.data.toList b e w' ∧ Keep w w' := by
  have HC := Lib.hid hC
  have K1 := Lib.hid (Keep.bytes w 5 t)
  obtain ⟨W1, hW1⟩ : ∃ W1, W1 = Lib.bytesWorld w 5 t := ⟨_, rfl⟩
  have C1 := Lib.hid (hC w)
  rw [← hW1] at K1 C1
  clear hW1 hC HC
  have G1 := hG.keep K1.out
  by_cases d : (numRun B t.data.toList 0).2 < lxBig
  · have hv := puV_small (B := B) (l := t.data.toList) rfl d
    rw [hv] at C1
    have HD := Lib.hid d
    generalize hm : (numRun B t.data.toList 0).2 = m at C1 HD
    have HM := Lib.hid hm
    clear hv d hG G1 hm
    go_enter Tryd.func46, Tryd.ntmps46
    go_wp2_with ((with_reducible refine C1.out.mono ?_); rintro e w' ⟨rfl, rfl⟩)
    go_ret2
    exact ⟨.inl (by rw [HM.out]; exact ⟨HD.out, rfl⟩), K1.out⟩
  · have hv : puV B t.data.toList = .tuple #[.int .u64 1099511627775, .iface 118 (.int .i64 1)] := by unfold puV; rw [if_neg d]
    rw [hv] at C1
    have HD := Lib.hid d
    have HG := Lib.hid G1
    clear hv d hG G1
    go_enter Tryd.func46, Tryd.ntmps46
    go_wp2_with (first | ((with_reducible refine C1.out.mono ?_); rintro e w' ⟨rfl, rfl⟩) | (refine (Tryd.strconv_toError_range puS t B 40 (esV b) _ (by omega) HG.out (.inr ⟨_, _, rfl⟩)).mono ?_; rintro e w2 ⟨N, rfl, h1, h2, h3⟩))

    go_ret2
    exact ⟨.inr ⟨by have := HD.out; omega, N, puS, t, rfl, ⟨_, h2⟩⟩, K1.out.trans h3⟩
end Go.Proofs.YtcdepfdfemmfhaaDoor
