/- word.Holds and the reference's Holds: what each answers for every op and any two numbers. -/
import Derived.Test.YtcmmdeenkfeofaaDoorDoNames
import Derived.Test.YtcmmdeenkfeofaaDoorSteps
namespace Go.Proofs.YtcmmdeenkfeofaaDoor
set_option linter.unusedVariables false
set_option linter.unusedSimpArgs false
open Go.RowKit

def hm_beq : ByteArray := ⟨#[98, 101, 113]⟩
def hm_bne : ByteArray := ⟨#[98, 110, 101]⟩
def hm_blt : ByteArray := ⟨#[98, 108, 116]⟩
def hm_bge : ByteArray := ⟨#[98, 103, 101]⟩
def hm_bltu : ByteArray := ⟨#[98, 108, 116, 117]⟩
def hm_bgeu : ByteArray := ⟨#[98, 103, 101, 117]⟩
/-- What P101 says of each branch. -/
def holdsVal (op : ByteArray) (a b : Int) : Bool :=
  if op = hm_beq then a == b else
  if op = hm_bne then a != b else
  if op = hm_blt then decide (wrap32 a < wrap32 b) else
  if op = hm_bge then decide (wrap32 b ≤ wrap32 a) else
  if op = hm_bltu then decide (a < b) else
  if op = hm_bgeu then decide (b ≤ a) else
  false
def holdsOk (op : ByteArray) : Bool :=
  decide (op = hm_beq) || decide (op = hm_bne) || decide (op = hm_blt) || decide (op = hm_bge) || decide (op = hm_bltu) || decide (op = hm_bgeu)
theorem hw_beq (a b : Int) (w : World) (h0 : 0 ≤ a) (h1 : a < 4294967296) (h2 : 0 ≤ b) (h3 : b < 4294967296) :
    Calls Tryd.prog 11 #[.string hm_beq, .int .u32 a, .int .u32 b] w fun e w' => e = .returned (.tuple #[.bool (a == b), .nilIface]) ∧ w = w' := by
  unfold hm_beq
  go_enter Tryd.func11, Tryd.ntmps11
  repeat' (first
      | with_reducible refine then_normal ?_ | with_reducible refine then_exit ?_ | with_reducible refine then_ret ?_ | with_reducible refine in_normal ?_ | with_reducible refine in_ret ?_ | with_reducible refine in_hit ?_ | with_reducible refine in_miss rfl ?_
      | go_values | go_skip | go_guarded | go_step | go_upon | go_in | go_back | (simp only [Int.not_lt, Int.not_le] at *; go_simp))
  go_ret2
  exact ⟨rfl, rfl⟩
theorem hw_bne (a b : Int) (w : World) (h0 : 0 ≤ a) (h1 : a < 4294967296) (h2 : 0 ≤ b) (h3 : b < 4294967296) :
    Calls Tryd.prog 11 #[.string hm_bne, .int .u32 a, .int .u32 b] w fun e w' => e = .returned (.tuple #[.bool (a != b), .nilIface]) ∧ w = w' := by
  unfold hm_bne
  go_enter Tryd.func11, Tryd.ntmps11
  repeat' (first
      | with_reducible refine then_normal ?_ | with_reducible refine then_exit ?_ | with_reducible refine then_ret ?_ | with_reducible refine in_normal ?_ | with_reducible refine in_ret ?_ | with_reducible refine in_hit ?_ | with_reducible refine in_miss rfl ?_
      | go_values | go_skip | go_guarded | go_step | go_upon | go_in | go_back | (simp only [Int.not_lt, Int.not_le] at *; go_simp))
  go_ret2
  exact ⟨rfl, rfl⟩
theorem hw_blt (a b : Int) (w : World) (h0 : 0 ≤ a) (h1 : a < 4294967296) (h2 : 0 ≤ b) (h3 : b < 4294967296) :
    Calls Tryd.prog 11 #[.string hm_blt, .int .u32 a, .int .u32 b] w fun e w' => e = .returned (.tuple #[.bool (decide (wrap32 a < wrap32 b)), .nilIface]) ∧ w = w' := by
  have HR : Hid (decide ((a + 2147483648) % 4294967296 < (b + 2147483648) % 4294967296) = decide (wrap32 a < wrap32 b)) := Lib.hid (decide_eq_decide.2 (raisedLt a b h0 h1 h2 h3))
  unfold hm_blt
  go_enter Tryd.func11, Tryd.ntmps11
  repeat' (first
      | (go_at_call 18; refine (raised_any _ _ (by omega) (by omega)).mono ?_; rintro e w' ⟨rfl, rfl⟩)
      | with_reducible refine then_normal ?_ | with_reducible refine then_exit ?_ | with_reducible refine then_ret ?_ | with_reducible refine in_normal ?_ | with_reducible refine in_ret ?_ | with_reducible refine in_hit ?_ | with_reducible refine in_miss rfl ?_
      | go_values | go_skip | go_guarded | go_step | go_upon | go_back | (simp only [Int.not_lt, Int.not_le] at *; go_simp))
  go_ret2
  exact ⟨by rw [← HR.out]; rfl, rfl⟩
theorem hw_bge (a b : Int) (w : World) (h0 : 0 ≤ a) (h1 : a < 4294967296) (h2 : 0 ≤ b) (h3 : b < 4294967296) :
    Calls Tryd.prog 11 #[.string hm_bge, .int .u32 a, .int .u32 b] w fun e w' => e = .returned (.tuple #[.bool (decide (wrap32 b ≤ wrap32 a)), .nilIface]) ∧ w = w' := by
  have HR : Hid (decide ((b + 2147483648) % 4294967296 ≤ (a + 2147483648) % 4294967296) = decide (wrap32 b ≤ wrap32 a)) := Lib.hid (decide_eq_decide.2 (raisedLe b a h2 h3 h0 h1))
  unfold hm_bge
  go_enter Tryd.func11, Tryd.ntmps11
  repeat' (first
      | (go_at_call 18; refine (raised_any _ _ (by omega) (by omega)).mono ?_; rintro e w' ⟨rfl, rfl⟩)
      | with_reducible refine then_normal ?_ | with_reducible refine then_exit ?_ | with_reducible refine then_ret ?_ | with_reducible refine in_normal ?_ | with_reducible refine in_ret ?_ | with_reducible refine in_hit ?_ | with_reducible refine in_miss rfl ?_
      | go_values | go_skip | go_guarded | go_step | go_upon | go_back | (simp only [Int.not_lt, Int.not_le] at *; go_simp))
  go_ret2
  exact ⟨by rw [← HR.out]; rfl, rfl⟩
theorem hw_bltu (a b : Int) (w : World) (h0 : 0 ≤ a) (h1 : a < 4294967296) (h2 : 0 ≤ b) (h3 : b < 4294967296) :
    Calls Tryd.prog 11 #[.string hm_bltu, .int .u32 a, .int .u32 b] w fun e w' => e = .returned (.tuple #[.bool (decide (a < b)), .nilIface]) ∧ w = w' := by
  unfold hm_bltu
  go_enter Tryd.func11, Tryd.ntmps11
  repeat' (first
      | with_reducible refine then_normal ?_ | with_reducible refine then_exit ?_ | with_reducible refine then_ret ?_ | with_reducible refine in_normal ?_ | with_reducible refine in_ret ?_ | with_reducible refine in_hit ?_ | with_reducible refine in_miss rfl ?_
      | go_values | go_skip | go_guarded | go_step | go_upon | go_in | go_back | (simp only [Int.not_lt, Int.not_le] at *; go_simp))
  go_ret2
  exact ⟨rfl, rfl⟩
theorem hw_bgeu (a b : Int) (w : World) (h0 : 0 ≤ a) (h1 : a < 4294967296) (h2 : 0 ≤ b) (h3 : b < 4294967296) :
    Calls Tryd.prog 11 #[.string hm_bgeu, .int .u32 a, .int .u32 b] w fun e w' => e = .returned (.tuple #[.bool (decide (b ≤ a)), .nilIface]) ∧ w = w' := by
  unfold hm_bgeu
  go_enter Tryd.func11, Tryd.ntmps11
  repeat' (first
      | with_reducible refine then_normal ?_ | with_reducible refine then_exit ?_ | with_reducible refine then_ret ?_ | with_reducible refine in_normal ?_ | with_reducible refine in_ret ?_ | with_reducible refine in_hit ?_ | with_reducible refine in_miss rfl ?_
      | go_values | go_skip | go_guarded | go_step | go_upon | go_in | go_back | (simp only [Int.not_lt, Int.not_le] at *; go_simp))
  go_ret2
  exact ⟨rfl, rfl⟩
theorem hr_beq (a b : Int) (w : World) (h0 : 0 ≤ a) (h1 : a < 4294967296) (h2 : 0 ≤ b) (h3 : b < 4294967296) :
    Calls Tryd.prog 12 #[.string hm_beq, .int .u32 a, .int .u32 b] w fun e w' => e = .returned (.tuple #[.bool (a == b), .bool true]) ∧ w = w' := by
  unfold hm_beq
  go_enter Tryd.func12, Tryd.ntmps12
  repeat' (first
      | with_reducible refine then_normal ?_ | with_reducible refine then_exit ?_ | with_reducible refine then_ret ?_ | with_reducible refine in_normal ?_ | with_reducible refine in_ret ?_ | with_reducible refine in_hit ?_ | with_reducible refine in_miss rfl ?_
      | go_values | go_skip | go_guarded | go_step | go_upon | go_in | go_back | (simp only [Int.not_lt, Int.not_le] at *; go_simp))
  go_ret2
  exact ⟨rfl, rfl⟩
theorem hr_bne (a b : Int) (w : World) (h0 : 0 ≤ a) (h1 : a < 4294967296) (h2 : 0 ≤ b) (h3 : b < 4294967296) :
    Calls Tryd.prog 12 #[.string hm_bne, .int .u32 a, .int .u32 b] w fun e w' => e = .returned (.tuple #[.bool (a != b), .bool true]) ∧ w = w' := by
  unfold hm_bne
  go_enter Tryd.func12, Tryd.ntmps12
  repeat' (first
      | with_reducible refine then_normal ?_ | with_reducible refine then_exit ?_ | with_reducible refine then_ret ?_ | with_reducible refine in_normal ?_ | with_reducible refine in_ret ?_ | with_reducible refine in_hit ?_ | with_reducible refine in_miss rfl ?_
      | go_values | go_skip | go_guarded | go_step | go_upon | go_in | go_back | (simp only [Int.not_lt, Int.not_le] at *; go_simp))
  go_ret2
  exact ⟨rfl, rfl⟩
theorem hr_blt (a b : Int) (w : World) (h0 : 0 ≤ a) (h1 : a < 4294967296) (h2 : 0 ≤ b) (h3 : b < 4294967296) :
    Calls Tryd.prog 12 #[.string hm_blt, .int .u32 a, .int .u32 b] w fun e w' => e = .returned (.tuple #[.bool (decide (wrap32 a < wrap32 b)), .bool true]) ∧ w = w' := by
  unfold hm_blt
  go_enter Tryd.func12, Tryd.ntmps12
  repeat' (first
      | with_reducible refine then_normal ?_ | with_reducible refine then_exit ?_ | with_reducible refine then_ret ?_ | with_reducible refine in_normal ?_ | with_reducible refine in_ret ?_ | with_reducible refine in_hit ?_ | with_reducible refine in_miss rfl ?_
      | go_values | go_skip | go_guarded | go_step | go_upon | go_in | go_back | (simp only [Int.not_lt, Int.not_le] at *; go_simp))
  go_ret2
  exact ⟨rfl, rfl⟩
theorem hr_bge (a b : Int) (w : World) (h0 : 0 ≤ a) (h1 : a < 4294967296) (h2 : 0 ≤ b) (h3 : b < 4294967296) :
    Calls Tryd.prog 12 #[.string hm_bge, .int .u32 a, .int .u32 b] w fun e w' => e = .returned (.tuple #[.bool (decide (wrap32 b ≤ wrap32 a)), .bool true]) ∧ w = w' := by
  unfold hm_bge
  go_enter Tryd.func12, Tryd.ntmps12
  repeat' (first
      | with_reducible refine then_normal ?_ | with_reducible refine then_exit ?_ | with_reducible refine then_ret ?_ | with_reducible refine in_normal ?_ | with_reducible refine in_ret ?_ | with_reducible refine in_hit ?_ | with_reducible refine in_miss rfl ?_
      | go_values | go_skip | go_guarded | go_step | go_upon | go_in | go_back | (simp only [Int.not_lt, Int.not_le] at *; go_simp))
  go_ret2
  exact ⟨rfl, rfl⟩
theorem hr_bltu (a b : Int) (w : World) (h0 : 0 ≤ a) (h1 : a < 4294967296) (h2 : 0 ≤ b) (h3 : b < 4294967296) :
    Calls Tryd.prog 12 #[.string hm_bltu, .int .u32 a, .int .u32 b] w fun e w' => e = .returned (.tuple #[.bool (decide (a < b)), .bool true]) ∧ w = w' := by
  unfold hm_bltu
  go_enter Tryd.func12, Tryd.ntmps12
  repeat' (first
      | with_reducible refine then_normal ?_ | with_reducible refine then_exit ?_ | with_reducible refine then_ret ?_ | with_reducible refine in_normal ?_ | with_reducible refine in_ret ?_ | with_reducible refine in_hit ?_ | with_reducible refine in_miss rfl ?_
      | go_values | go_skip | go_guarded | go_step | go_upon | go_in | go_back | (simp only [Int.not_lt, Int.not_le] at *; go_simp))
  go_ret2
  exact ⟨rfl, rfl⟩
theorem hr_bgeu (a b : Int) (w : World) (h0 : 0 ≤ a) (h1 : a < 4294967296) (h2 : 0 ≤ b) (h3 : b < 4294967296) :
    Calls Tryd.prog 12 #[.string hm_bgeu, .int .u32 a, .int .u32 b] w fun e w' => e = .returned (.tuple #[.bool (decide (b ≤ a)), .bool true]) ∧ w = w' := by
  unfold hm_bgeu
  go_enter Tryd.func12, Tryd.ntmps12
  repeat' (first
      | with_reducible refine then_normal ?_ | with_reducible refine then_exit ?_ | with_reducible refine then_ret ?_ | with_reducible refine in_normal ?_ | with_reducible refine in_ret ?_ | with_reducible refine in_hit ?_ | with_reducible refine in_miss rfl ?_
      | go_values | go_skip | go_guarded | go_step | go_upon | go_in | go_back | (simp only [Int.not_lt, Int.not_le] at *; go_simp))
  go_ret2
  exact ⟨rfl, rfl⟩
theorem hw_none (op : ByteArray) (a b : Int) (w : World) (h0 : 0 ≤ a) (h1 : a < 4294967296) (h2 : 0 ≤ b) (h3 : b < 4294967296) (n0 : ¬ op = hm_beq) (n1 : ¬ op = hm_bne) (n2 : ¬ op = hm_blt) (n3 : ¬ op = hm_bge) (n4 : ¬ op = hm_bltu) (n5 : ¬ op = hm_bgeu) :
    Calls Tryd.prog 11 #[.string op, .int .u32 a, .int .u32 b] w fun e w' => e = .returned (.tuple #[.bool false, .iface 35 (.int .i64 7)]) ∧ w = w' := by
  have t0 : (op.toList == [98, 101, 113]) = false := str_ne op _ n0
  have t1 : (op.toList == [98, 110, 101]) = false := str_ne op _ n1
  have t2 : (op.toList == [98, 108, 116]) = false := str_ne op _ n2
  have t3 : (op.toList == [98, 103, 101]) = false := str_ne op _ n3
  have t4 : (op.toList == [98, 108, 116, 117]) = false := str_ne op _ n4
  have t5 : (op.toList == [98, 103, 101, 117]) = false := str_ne op _ n5
  clear n0 n1 n2 n3 n4 n5
  go_enter Tryd.func11, Tryd.ntmps11
  repeat' (first
      | with_reducible refine then_normal ?_ | with_reducible refine then_exit ?_ | with_reducible refine then_ret ?_ | with_reducible refine in_normal ?_ | with_reducible refine in_ret ?_ | with_reducible refine in_hit ?_ | with_reducible refine in_miss rfl ?_
      | go_values | go_skip | go_guarded | go_step | go_upon | go_in | go_back | (simp only [Int.not_lt, Int.not_le] at *; go_simp))
  go_ret2
  exact ⟨rfl, rfl⟩
theorem hr_none (op : ByteArray) (a b : Int) (w : World) (h0 : 0 ≤ a) (h1 : a < 4294967296) (h2 : 0 ≤ b) (h3 : b < 4294967296) (n0 : ¬ op = hm_beq) (n1 : ¬ op = hm_bne) (n2 : ¬ op = hm_blt) (n3 : ¬ op = hm_bge) (n4 : ¬ op = hm_bltu) (n5 : ¬ op = hm_bgeu) :
    Calls Tryd.prog 12 #[.string op, .int .u32 a, .int .u32 b] w fun e w' => e = .returned (.tuple #[.bool false, .bool false]) ∧ w = w' := by
  have t0 : (op.toList == [98, 101, 113]) = false := str_ne op _ n0
  have t1 : (op.toList == [98, 110, 101]) = false := str_ne op _ n1
  have t2 : (op.toList == [98, 108, 116]) = false := str_ne op _ n2
  have t3 : (op.toList == [98, 103, 101]) = false := str_ne op _ n3
  have t4 : (op.toList == [98, 108, 116, 117]) = false := str_ne op _ n4
  have t5 : (op.toList == [98, 103, 101, 117]) = false := str_ne op _ n5
  clear n0 n1 n2 n3 n4 n5
  go_enter Tryd.func12, Tryd.ntmps12
  repeat' (first
      | with_reducible refine then_normal ?_ | with_reducible refine then_exit ?_ | with_reducible refine then_ret ?_ | with_reducible refine in_normal ?_ | with_reducible refine in_ret ?_ | with_reducible refine in_hit ?_ | with_reducible refine in_miss rfl ?_
      | go_values | go_skip | go_guarded | go_step | go_upon | go_in | go_back | (simp only [Int.not_lt, Int.not_le] at *; go_simp))
  go_ret2
  exact ⟨rfl, rfl⟩
theorem holds_ok (op : ByteArray) (a b : Int) (w : World) (h0 : 0 ≤ a) (h1 : a < 4294967296) (h2 : 0 ≤ b) (h3 : b < 4294967296) (hk : holdsOk op = true) :
    Calls Tryd.prog 11 #[.string op, .int .u32 a, .int .u32 b] w fun e w' => e = .returned (.tuple #[.bool (holdsVal op a b), .nilIface]) ∧ w = w' := by
  by_cases n0 : op = hm_beq
  · subst n0
    have hv : holdsVal hm_beq a b = (a == b) := by unfold holdsVal; rw [if_pos rfl]
    rw [hv]
    exact hw_beq a b w h0 h1 h2 h3
  by_cases n1 : op = hm_bne
  · subst n1
    have hv : holdsVal hm_bne a b = (a != b) := by unfold holdsVal; rw [if_neg (by decide), if_pos rfl]
    rw [hv]
    exact hw_bne a b w h0 h1 h2 h3
  by_cases n2 : op = hm_blt
  · subst n2
    have hv : holdsVal hm_blt a b = (decide (wrap32 a < wrap32 b)) := by unfold holdsVal; rw [if_neg (by decide), if_neg (by decide), if_pos rfl]
    rw [hv]
    exact hw_blt a b w h0 h1 h2 h3
  by_cases n3 : op = hm_bge
  · subst n3
    have hv : holdsVal hm_bge a b = (decide (wrap32 b ≤ wrap32 a)) := by unfold holdsVal; rw [if_neg (by decide), if_neg (by decide), if_neg (by decide), if_pos rfl]
    rw [hv]
    exact hw_bge a b w h0 h1 h2 h3
  by_cases n4 : op = hm_bltu
  · subst n4
    have hv : holdsVal hm_bltu a b = (decide (a < b)) := by unfold holdsVal; rw [if_neg (by decide), if_neg (by decide), if_neg (by decide), if_neg (by decide), if_pos rfl]
    rw [hv]
    exact hw_bltu a b w h0 h1 h2 h3
  by_cases n5 : op = hm_bgeu
  · subst n5
    have hv : holdsVal hm_bgeu a b = (decide (b ≤ a)) := by unfold holdsVal; rw [if_neg (by decide), if_neg (by decide), if_neg (by decide), if_neg (by decide), if_neg (by decide), if_pos rfl]
    rw [hv]
    exact hw_bgeu a b w h0 h1 h2 h3
  simp only [holdsOk, Bool.or_eq_true, decide_eq_true_eq, n0, n1, n2, n3, n4, n5, or_self] at hk
theorem holds_no (op : ByteArray) (a b : Int) (w : World) (h0 : 0 ≤ a) (h1 : a < 4294967296) (h2 : 0 ≤ b) (h3 : b < 4294967296) (hk : holdsOk op = false) :
    Calls Tryd.prog 11 #[.string op, .int .u32 a, .int .u32 b] w fun e w' => e = .returned (.tuple #[.bool false, .iface 35 (.int .i64 7)]) ∧ w = w' := by
  simp only [holdsOk, Bool.or_eq_false_iff, decide_eq_false_iff_not] at hk
  obtain ⟨⟨⟨⟨⟨n0, n1⟩, n2⟩, n3⟩, n4⟩, n5⟩ := hk
  exact hw_none op a b w h0 h1 h2 h3 n0 n1 n2 n3 n4 n5
theorem refHolds_ok (op : ByteArray) (a b : Int) (w : World) (h0 : 0 ≤ a) (h1 : a < 4294967296) (h2 : 0 ≤ b) (h3 : b < 4294967296) (hk : holdsOk op = true) :
    Calls Tryd.prog 12 #[.string op, .int .u32 a, .int .u32 b] w fun e w' => e = .returned (.tuple #[.bool (holdsVal op a b), .bool true]) ∧ w = w' := by
  by_cases n0 : op = hm_beq
  · subst n0
    have hv : holdsVal hm_beq a b = (a == b) := by unfold holdsVal; rw [if_pos rfl]
    rw [hv]
    exact hr_beq a b w h0 h1 h2 h3
  by_cases n1 : op = hm_bne
  · subst n1
    have hv : holdsVal hm_bne a b = (a != b) := by unfold holdsVal; rw [if_neg (by decide), if_pos rfl]
    rw [hv]
    exact hr_bne a b w h0 h1 h2 h3
  by_cases n2 : op = hm_blt
  · subst n2
    have hv : holdsVal hm_blt a b = (decide (wrap32 a < wrap32 b)) := by unfold holdsVal; rw [if_neg (by decide), if_neg (by decide), if_pos rfl]
    rw [hv]
    exact hr_blt a b w h0 h1 h2 h3
  by_cases n3 : op = hm_bge
  · subst n3
    have hv : holdsVal hm_bge a b = (decide (wrap32 b ≤ wrap32 a)) := by unfold holdsVal; rw [if_neg (by decide), if_neg (by decide), if_neg (by decide), if_pos rfl]
    rw [hv]
    exact hr_bge a b w h0 h1 h2 h3
  by_cases n4 : op = hm_bltu
  · subst n4
    have hv : holdsVal hm_bltu a b = (decide (a < b)) := by unfold holdsVal; rw [if_neg (by decide), if_neg (by decide), if_neg (by decide), if_neg (by decide), if_pos rfl]
    rw [hv]
    exact hr_bltu a b w h0 h1 h2 h3
  by_cases n5 : op = hm_bgeu
  · subst n5
    have hv : holdsVal hm_bgeu a b = (decide (b ≤ a)) := by unfold holdsVal; rw [if_neg (by decide), if_neg (by decide), if_neg (by decide), if_neg (by decide), if_neg (by decide), if_pos rfl]
    rw [hv]
    exact hr_bgeu a b w h0 h1 h2 h3
  simp only [holdsOk, Bool.or_eq_true, decide_eq_true_eq, n0, n1, n2, n3, n4, n5, or_self] at hk
theorem refHolds_no (op : ByteArray) (a b : Int) (w : World) (h0 : 0 ≤ a) (h1 : a < 4294967296) (h2 : 0 ≤ b) (h3 : b < 4294967296) (hk : holdsOk op = false) :
    Calls Tryd.prog 12 #[.string op, .int .u32 a, .int .u32 b] w fun e w' => e = .returned (.tuple #[.bool false, .bool false]) ∧ w = w' := by
  simp only [holdsOk, Bool.or_eq_false_iff, decide_eq_false_iff_not] at hk
  obtain ⟨⟨⟨⟨⟨n0, n1⟩, n2⟩, n3⟩, n4⟩, n5⟩ := hk
  exact hr_none op a b w h0 h1 h2 h3 n0 n1 n2 n3 n4 n5
end Go.Proofs.YtcmmdeenkfeofaaDoor
