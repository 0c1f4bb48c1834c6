/- The program's man: fault, permWord, room; what a list's first hit says. -/
import Derived.Test.YteddflbidafebaaGreatDoorManPIdx
import Derived.Test.YteddflbidafebaaGreatDoorGObjPA
import Derived.Test.YteddflbidafebaaGreatDoorObjNz
namespace Go.Proofs.YteddflbidafebaaGreatDoor
set_option linter.unusedVariables false
set_option linter.unusedSimpArgs false
open Go.RowKit
/-! ### Plain -/
theorem idxF_lt {α : Type} {f : α → Bool} : ∀ (l : List α) (k i : Nat) (x : α), l[i]? = some x → f x = true → decide (idxF f l k < ((k + i : Nat) : Int)) = (l.take i).any f
  | [], k, i, x, h, _ => by simp at h
  | y :: r, k, 0, x, h, hf => by
    simp only [List.getElem?_cons_zero, Option.some.injEq] at h
    subst h
    unfold idxF
    rw [if_pos hf, List.take_zero]
    simp
  | y :: r, k, i + 1, x, h, hf => by
    simp only [List.getElem?_cons_succ] at h
    unfold idxF
    rw [List.take_succ_cons, List.any_cons]
    by_cases hy : f y = true
    · rw [if_pos hy, hy, Bool.true_or]
      apply decide_eq_true; omega
    · rw [if_neg hy, (Bool.not_eq_true _).mp hy, Bool.false_or, ← idxF_lt r (k + 1) i x h hf]
      congr 2
      omega
theorem idxF_neg {α : Type} {f : α → Bool} : ∀ (l : List α) (k : Nat), decide (idxF f l k < 0) = !l.any f
  | [], k => by rfl
  | y :: r, k => by
    unfold idxF
    rw [List.any_cons]
    by_cases hy : f y = true
    · rw [if_pos hy, hy, Bool.true_or]
      apply decide_eq_false; omega
    · rw [if_neg hy, (Bool.not_eq_true _).mp hy, Bool.false_or, idxF_neg r (k + 1)]
theorem idxL_neg (l : List CompV) (n : ByteArray) : decide (idxL l n 0 < 0) = !hasC l n := by
  rw [idxL_F, idxF_neg]; rfl
theorem idxL_lt {l : List CompV} {i : Nat} {c : CompV} (h : l[i]? = some c) : decide (idxL l c.name 0 < (i : Int)) = hasC (l.take i) c.name := by
  rw [idxL_F]
  have := idxF_lt (f := fun d => decide (d.name = c.name)) l 0 i c h (decide_eq_true rfl)
  rw [Nat.zero_add] at this
  exact this
theorem sizedAt_at {l : List CompV} {i : Nat} {c : CompV} (h : l[i]? = some c) : sizedAt l i = sizedE c.name (hasC (l.take i) c.name) c.stack := by
  unfold sizedAt; rw [h]
/-- A Perm in words: of none that may be, nothing. -/
def permS (p : Int) : ByteArray := if p = 1 then bsL [114] else if p = 2 then bsL [119] else if p = 3 then bsL [114, 119] else ⟨#[]⟩
/-! ### fault, permWord -/
theorem mfault_any (part : ByteArray) (at_ n : Int) (w : World) :
    Calls Tryz.prog 14 #[.string part, .int .i64 at_, .int .i64 n] w fun e w' => ∃ q, e = .returned (faultP q) ∧ w.heap.size ≤ q ∧ Box w' q #[.string part, .int .i64 at_, .iface 40 (.int .i64 n)] ∧ Keep w w' := by
  unfold faultP
  go_enter Tryz.func14, Tryz.ntmps14
  go_wp2_with fail
  go_ret
  exact ⟨_, rfl, Nat.le_refl _, Box.new _ _ _, (Keep.refl _).alloc _⟩
theorem mpermWord_any (p : Int) (w : World) : Calls Tryz.prog 21 #[.int .u16 p] w fun e w' => e = .returned (.string (permS p)) ∧ w = w' := by
  unfold permS
  by_cases h1 : p = 1
  · subst h1
    rw [if_pos rfl]
    go_enter Tryz.func21, Tryz.ntmps21
    go_wp2_with fail
    go_ret
    exact ⟨rfl, rfl⟩
  have q1 : (p == 1) = false := beq_eq_false_iff_ne.2 h1
  by_cases h2 : p = 2
  · subst h2
    rw [if_neg h1, if_pos rfl]
    go_enter Tryz.func21, Tryz.ntmps21
    go_wp2_with fail
    go_ret
    exact ⟨rfl, rfl⟩
  have q2 : (p == 2) = false := beq_eq_false_iff_ne.2 h2
  by_cases h3 : p = 3
  · subst h3
    rw [if_neg h1, if_neg h2, if_pos rfl]
    go_enter Tryz.func21, Tryz.ntmps21
    go_wp2_with fail
    go_ret
    exact ⟨rfl, rfl⟩
  have q3 : (p == 3) = false := beq_eq_false_iff_ne.2 h3
  rw [if_neg h1, if_neg h2, if_neg h3]
  go_enter Tryz.func21, Tryz.ntmps21
  go_wp2_with fail
  go_ret
  exact ⟨rfl, rfl⟩
/-! ### room -/
theorem mroom_any (n : ByteArray) (tw : Bool) (z : Int) (hn : n.size ≤ 140737488355328) (hz : 0 ≤ z) (hz2 : z < 4294967296) (w : World) :
    Calls Tryz.prog 45 #[.string n, .bool tw, .int .u32 z] w fun e w' => e = .returned (.int .i64 (sizedE n tw z)) ∧ w = w' := by
  have CG := Lib.hid (fun W => pname_any n hn W)
  unfold sizedE
  clear hn
  cases g : goodB n with
  | false =>
    rw [g] at CG
    rw [if_pos rfl]
    go_enter Tryz.func45, Tryz.ntmps45
    go_wp2_with ((with_reducible refine (CG.out _).mono ?_); rintro e w' ⟨rfl, rfl⟩)
    go_ret
    exact ⟨rfl, rfl⟩
  | true =>
    rw [g] at CG
    rw [if_neg (by decide)]
    cases tw with
    | true =>
      rw [if_pos rfl]
      go_enter Tryz.func45, Tryz.ntmps45
      go_wp2_with ((with_reducible refine (CG.out _).mono ?_); rintro e w' ⟨rfl, rfl⟩)
      go_ret
      exact ⟨rfl, rfl⟩
    | false =>
      rw [if_neg (by decide)]
      by_cases h16 : z % 16 = 0
      rotate_left
      · have q : (z % 16 != 0) = true := by simpa using h16
        rw [if_pos h16]
        go_enter Tryz.func45, Tryz.ntmps45
        go_wp2_with ((with_reducible refine (CG.out _).mono ?_); rintro e w' ⟨rfl, rfl⟩)
        go_ret
        exact ⟨rfl, rfl⟩
      have q : (z % 16 != 0) = false := by simpa using h16
      rw [if_neg (by simpa using h16)]
      by_cases h0 : z = 0
      · subst h0
        rw [show (if (0 : Int) = 0 ∨ (4096 : Int) < 0 then (14 : Int) else 0) = 14 from rfl]
        go_enter Tryz.func45, Tryz.ntmps45
        go_wp2_with ((with_reducible refine (CG.out _).mono ?_); rintro e w' ⟨rfl, rfl⟩)
        go_ret
        exact ⟨rfl, rfl⟩
      have q0 : (z == 0) = false := beq_eq_false_iff_ne.2 h0
      by_cases h4 : 4096 < z
      · have q4 : decide ((4096 : Int) < z) = true := decide_eq_true h4
        rw [if_pos (.inr h4)]
        go_enter Tryz.func45, Tryz.ntmps45
        go_wp2_with ((with_reducible refine (CG.out _).mono ?_); rintro e w' ⟨rfl, rfl⟩)
        go_ret
        exact ⟨rfl, rfl⟩
      · have q4 : decide ((4096 : Int) < z) = false := decide_eq_false h4
        rw [if_neg (by rintro (h | h); exact h0 h; exact h4 h)]
        go_enter Tryz.func45, Tryz.ntmps45
        go_wp2_with ((with_reducible refine (CG.out _).mono ?_); rintro e w' ⟨rfl, rfl⟩)
        go_ret
        exact ⟨rfl, rfl⟩
end Go.Proofs.YteddflbidafebaaGreatDoor
