/- A memory's bytes and tags as lists: what a store does to each; no Go in sight. -/
import Derived.Test.YtnnelghngekbpaaDoorMemCap
namespace Go.Proofs.YtnnelghngekbpaaDoor
set_option linter.unusedVariables false
set_option linter.unusedSimpArgs false
open Go.RowKit
theorem putAt_getD (xs : List Int) : ∀ (bs : List Int) (a j : Nat), a + xs.length ≤ bs.length → (putAt bs a xs).getD j 0 = if a ≤ j ∧ j < a + xs.length then xs.getD (j - a) 0 else bs.getD j 0 := by
  induction xs with
  | nil => intro bs a j h; rw [if_neg (by simp)]; rfl
  | cons x xs ih =>
    intro bs a j h
    simp only [List.length_cons] at h
    rw [putAt, ih _ _ _ (by rw [List.length_set]; omega)]
    simp only [List.length_cons]
    by_cases h1 : j = a
    · subst h1
      rw [if_neg (by omega), if_pos (by omega)]
      simp [List.getD_eq_getElem?_getD, show j < bs.length by omega]
    · by_cases h2 : a + 1 ≤ j ∧ j < a + 1 + xs.length
      · rw [if_pos h2, if_pos (by omega)]
        rw [show j - a = (j - (a + 1)) + 1 by omega, List.getD_cons_succ]
      · rw [if_neg h2, if_neg (by omega)]
        simp only [List.getD_eq_getElem?_getD]
        rw [List.getElem?_set_ne (by omega)]
theorem offAt_getD (ts : List Bool) (a g : Nat) : ∀ n, (offAt ts a n).getD g false = (ts.getD g false && !(decide (0 < n) && decide (a / 16 ≤ g) && decide (g ≤ (a + n - 1) / 16))) := by
  intro n
  induction n with
  | zero => simp [offAt]
  | succ n ih =>
    rw [offAt_step]
    have e : a + (n + 1) - 1 = a + n := by omega
    rw [e]
    by_cases hg : (a + n) / 16 = g
    · have h1 : ((offAt ts a n).set ((a + n) / 16) false).getD g false = false := by
        rw [hg]
        simp only [List.getD_eq_getElem?_getD]
        by_cases hl : g < (offAt ts a n).length
        · rw [List.getElem?_set_self hl]; rfl
        · rw [List.getElem?_eq_none (by rw [List.length_set]; omega)]; rfl
      rw [h1]
      have h2 : a / 16 ≤ g := by omega
      have h3 : g ≤ (a + n) / 16 := by omega
      simp [h2, h3]
    · have h1 : ((offAt ts a n).set ((a + n) / 16) false).getD g false = (offAt ts a n).getD g false := by
        simp only [List.getD_eq_getElem?_getD]
        rw [List.getElem?_set_ne hg]
      rw [h1, ih]
      congr 1
      rcases Nat.eq_zero_or_pos n with rfl | hn
      · have : ¬ (a / 16 ≤ g ∧ g ≤ a / 16) := by simp at hg; omega
        by_cases h2 : a / 16 ≤ g <;> by_cases h3 : g ≤ a / 16 <;> simp_all
      · have hb : decide (g ≤ (a + n - 1) / 16) = decide (g ≤ (a + n) / 16) := by
          rw [decide_eq_decide]
          omega
        simp [hn, hb]
theorem list_ext_getD {l m : List Int} (h : l.length = m.length) (hg : ∀ j, j < l.length → l.getD j 0 = m.getD j 0) : l = m := by
  apply List.ext_getElem h
  intro i h1 h2
  have := hg i h1
  simpa [List.getD_eq_getElem?_getD, List.getElem?_eq_getElem h1, List.getElem?_eq_getElem h2] using this
theorem list_ext_getB {l m : List Bool} (h : l.length = m.length) (hg : ∀ j, j < l.length → l.getD j false = m.getD j false) : l = m := by
  apply List.ext_getElem h
  intro i h1 h2
  have := hg i h1
  simpa [List.getD_eq_getElem?_getD, List.getElem?_eq_getElem h1, List.getElem?_eq_getElem h2] using this
theorem sixteen_length (bs : List Int) (a : Nat) (h : a + 16 ≤ bs.length) : (sixteen bs a).length = 16 := by unfold sixteen; simp; omega
theorem sixteen_getD (bs : List Int) (a j : Nat) (hj : j < 16) : (sixteen bs a).getD j 0 = bs.getD (a + j) 0 := by
  simp [sixteen, List.getD_eq_getElem?_getD, List.getElem?_take, hj]
theorem sixteen_put (bs xs : List Int) (a : Nat) (hx : xs.length = 16) (h : a + 16 ≤ bs.length) : sixteen (putAt bs a xs) a = xs := by
  apply list_ext_getD (by rw [sixteen_length _ _ (by rw [putAt_length]; exact h), hx])
  intro j hj
  rw [sixteen_length _ _ (by rw [putAt_length]; exact h)] at hj
  rw [sixteen_getD _ _ _ hj, putAt_getD _ _ _ _ (by omega), if_pos (by omega), show a + j - a = j by omega]
theorem sixteen_far (bs xs : List Int) (a g : Nat) (h : a + xs.length ≤ bs.length) (hg : g + 16 ≤ bs.length) (hd : g + 16 ≤ a ∨ a + xs.length ≤ g) : sixteen (putAt bs a xs) g = sixteen bs g := by
  apply list_ext_getD (by rw [sixteen_length _ _ (by rw [putAt_length]; exact hg), sixteen_length _ _ hg])
  intro j hj
  rw [sixteen_length _ _ (by rw [putAt_length]; exact hg)] at hj
  rw [sixteen_getD _ _ _ hj, sixteen_getD _ _ _ hj, putAt_getD _ _ _ _ h, if_neg (by omega)]
theorem put_comm (bs x y : List Int) (p q : Nat) (hp : p + x.length ≤ bs.length) (hq : q + y.length ≤ bs.length) (hd : p + x.length ≤ q ∨ q + y.length ≤ p) : putAt (putAt bs p x) q y = putAt (putAt bs q y) p x := by
  apply list_ext_getD (by simp [putAt_length])
  intro j _
  rw [putAt_getD _ _ _ _ (by rw [putAt_length]; exact hq), putAt_getD _ _ _ _ hp, putAt_getD _ _ _ _ (by rw [putAt_length]; exact hp), putAt_getD _ _ _ _ hq]
  by_cases h1 : q ≤ j ∧ j < q + y.length <;> by_cases h2 : p ≤ j ∧ j < p + x.length
  · omega
  · rw [if_pos h1, if_neg h2, if_pos h1]
  · rw [if_neg h1, if_pos h2, if_pos h2]
  · rw [if_neg h1, if_neg h2, if_neg h2, if_neg h1]
theorem off_comm (ts : List Bool) (p m q n : Nat) : offAt (offAt ts p m) q n = offAt (offAt ts q n) p m := by
  apply list_ext_getB (by simp [offAt_length])
  intro j _
  rw [offAt_getD, offAt_getD, offAt_getD, offAt_getD]
  generalize (!(decide (0 < m) && decide (p / 16 ≤ j) && decide (j ≤ (p + m - 1) / 16))) = A
  generalize (!(decide (0 < n) && decide (q / 16 ≤ j) && decide (j ≤ (q + n - 1) / 16))) = B
  cases ts.getD j false <;> cases A <;> cases B <;> rfl
theorem set_getD (ts : List Bool) (i g : Nat) (t : Bool) (hi : i < ts.length) : (ts.set i t).getD g false = if g = i then t else ts.getD g false := by
  simp only [List.getD_eq_getElem?_getD]
  by_cases h : g = i
  · subst h; rw [if_pos rfl, List.getElem?_set_self hi]; rfl
  · rw [if_neg h, List.getElem?_set_ne (fun e => h e.symm)]
/-- Sixteen bytes that are a capability's, read. -/
theorem capV_put (t : Bool) (b p a m y : Int) (hb : 0 ≤ b ∧ b ≤ 4294967295) (hp : 0 ≤ p ∧ p ≤ 4294967295) (ha : 0 ≤ a ∧ a ≤ 4294967295) (hm : 0 ≤ m ∧ m ≤ 65535) (hy : 0 ≤ y ∧ y ≤ 65535) :
    capV t (putL b p a m y) = .agg #[.bool t, .int .u32 b, .int .u32 p, .int .u32 a, .int .u16 m, .int .u16 y] := by
  have e1 : part (putL b p a m y) 0 4 = b4 b := rfl
  have e2 : part (putL b p a m y) 4 4 = b4 p := rfl
  have e3 : part (putL b p a m y) 8 4 = b4 a := rfl
  have e4 : part (putL b p a m y) 12 2 = b2 m := rfl
  have e5 : part (putL b p a m y) 14 2 = b2 y := rfl
  unfold capV
  rw [e1, e2, e3, e4, e5, leW_b4 b hb, leW_b4 p hp, leW_b4 a ha, leW_b2 m hm, leW_b2 y hy]
theorem capV_zero : capV false (List.replicate 16 0) = .agg #[.bool false, .int .u32 0, .int .u32 0, .int .u32 0, .int .u16 0, .int .u16 0] := rfl
end Go.Proofs.YtnnelghngekbpaaDoor
