/- hasplaw1.known: its closed calls, one by one; it answers true, and lays one block. -/
import Derived.Test.YtcmmdeenkfeofaaDoorDoAny
import Derived.Test.YtcmmdeenkfeofaaDoorHolds
import Derived.Test.YtcmmdeenkfeofaaDoorSigned
import Derived.Test.YtcmmdeenkfeofaaDoorErr
import Derived.Test.YtcmmdeenkfeofaaDoorText
namespace Go.Proofs.YtcmmdeenkfeofaaDoor
set_option linter.unusedVariables false
set_option linter.unusedSimpArgs false
open Go.RowKit

theorem known_add (w : World) : Calls Tryd.prog 9 #[.string ⟨#[97, 100, 100]⟩, .int .u32 4294967295, .int .u32 2] w fun e w' => e = .returned (.tuple #[.int .u32 1, .nilIface]) ∧ w = w' :=
  do_add 4294967295 2 w (by decide) (by decide) (by decide) (by decide)
theorem known_sra (w : World) : Calls Tryd.prog 9 #[.string ⟨#[115, 114, 97]⟩, .int .u32 2147483648, .int .u32 33] w fun e w' => e = .returned (.tuple #[.int .u32 3221225472, .nilIface]) ∧ w = w' := by
  have h := do_sra 2147483648 33 w (by decide) (by decide) (by decide) (by decide)
  have e : wrap32 2147483648 / 2 ^ (33 % 32 : Int).toNat % 4294967296 = 3221225472 := by unfold wrap32; decide
  rw [e] at h
  exact h
theorem known_neg (w : World) : Calls Tryd.prog 9 #[.string ⟨#[110, 101, 103]⟩, .int .u32 1, .int .u32 1] w fun e w' => e = .returned (.tuple #[.int .u32 0, .iface 35 (.int .i64 7)]) ∧ w = w' :=
  do_no ⟨#[110, 101, 103]⟩ 1 1 w (by decide) (by decide) (by decide) (by decide) (by decide)
theorem known_blt (w : World) : Calls Tryd.prog 11 #[.string ⟨#[98, 108, 116]⟩, .int .u32 4294967295, .int .u32 0] w fun e w' => e = .returned (.tuple #[.bool true, .nilIface]) ∧ w = w' := by
  have h := hw_blt 4294967295 0 w (by decide) (by decide) (by decide) (by decide)
  have e : decide (wrap32 4294967295 < wrap32 0) = true := by unfold wrap32; decide
  rw [e] at h
  exact h
theorem known_hadd (w : World) : Calls Tryd.prog 11 #[.string ⟨#[97, 100, 100]⟩, .int .u32 1, .int .u32 1] w fun e w' => e = .returned (.tuple #[.bool false, .iface 35 (.int .i64 7)]) ∧ w = w' :=
  holds_no ⟨#[97, 100, 100]⟩ 1 1 w (by decide) (by decide) (by decide) (by decide) (by decide)
theorem known_signed (w : World) : Calls Tryd.prog 14 #[.int .u32 384, .int .i64 8] w fun e w' => e = .returned (.int .u32 4294967168) ∧ w = w' := by
  have h := signed_any 384 8 w (by decide) (by decide) (by decide) (by decide)
  have e : sgnVal 384 8 = 4294967168 := by unfold sgnVal wrap32; decide
  rw [e] at h
  exact h
theorem text161 : textOf 161 = ⟨#[48, 120, 48, 48, 48, 48, 48, 48, 97, 49]⟩ := by decide +kernel
def OneMore (w : World) (v : Value) (e : Ending) (w' : World) : Prop := ∃ o : Array Value, e = .returned v ∧ w' = w.alloc (.cells o 74)
theorem known_text (w : World) (hT : w.cell? ⟨2, 15, none⟩ = some (.int .u8 4)) (hw : 2 < w.heap.size) :
    Calls Tryd.prog 16 #[.int .u32 161] w (OneMore w (.string ⟨#[48, 120, 48, 48, 48, 48, 48, 48, 97, 49]⟩)) :=
  (text_any 161 w (by decide) hT hw).mono fun e w' ⟨o, he, hw'⟩ => ⟨o, by rw [he, text161], hw'⟩

theorem known_any (w : World) (hT : w.cell? ⟨2, 15, none⟩ = some (.int .u8 4)) (hw : 2 < w.heap.size) :
    Calls Tryd.prog 8 #[] w (OneMore w (.bool true)) := by
  have ht := Lib.hid hT
  clear hT
  go_enter Tryd.func8, Tryd.ntmps8
  go_wp2_with fail
  refine (known_add _).mono ?_
  rintro e w' ⟨rfl, rfl⟩
  go_wp2_with fail
  refine (known_sra _).mono ?_
  rintro e w' ⟨rfl, rfl⟩
  go_wp2_with fail
  refine (known_neg _).mono ?_
  rintro e w' ⟨rfl, rfl⟩
  go_wp2_with fail
  refine (known_blt _).mono ?_
  rintro e w' ⟨rfl, rfl⟩
  go_wp2_with fail
  refine (known_hadd _).mono ?_
  rintro e w' ⟨rfl, rfl⟩
  go_wp2_with fail
  refine (is_same 7 _).mono ?_
  rintro e w' ⟨rfl, rfl⟩
  go_wp2_with fail
  refine (is_same 7 _).mono ?_
  rintro e w' ⟨rfl, rfl⟩
  go_wp2_with fail
  refine (known_signed _).mono ?_
  rintro e w' ⟨rfl, rfl⟩
  go_wp2_with fail
  refine (known_text _ ht.out hw).mono ?_
  rintro e w' ⟨o, rfl, rfl⟩
  go_wp2_with fail
  go_ret
  exact ⟨o, rfl, rfl⟩
end Go.Proofs.YtcmmdeenkfeofaaDoor
