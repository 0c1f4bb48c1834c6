/- Plain: a line's words as SplitN gives them; digits as Trim and ParseUint ask them. -/
import Derived.Test.YteddflbidafebaaGreatDoorManMath
import Derived.Lib.Split
import Derived.Lib.IndexLaws
import Derived.Lib.IndexBytes
import Derived.Lib.Strings
import Derived.Lib.SlTrimSet
import Derived.Lib.ParseIntB
namespace Go.Proofs.YteddflbidafebaaGreatDoor
set_option linter.unusedVariables false
set_option linter.unusedSimpArgs false
open Go.RowKit
theorem splitB_ne (c : UInt8) (l : List UInt8) : splitB c l ≠ [] := by
  obtain ⟨p, q, e⟩ := splitB_some (c := c) l
  rw [e]; exact List.cons_ne_nil _ _
theorem splitB_len (c : UInt8) : ∀ l : List UInt8, (splitB c l).length ≤ l.length + 1
  | [] => by simp [splitB]
  | x :: r => by
    have ih := splitB_len c r
    unfold splitB
    by_cases h : x = c
    · rw [if_pos h]; simp only [List.length_cons]; omega
    · rw [if_neg h]
      obtain ⟨p, q, e⟩ := splitB_some (c := c) r
      rw [e] at ih ⊢
      simp only [List.length_cons] at ih ⊢
      omega
/-- What stands at the first of them. -/
theorem split_at {c : UInt8} {l : List UInt8} {o : Nat} (h1 : l[o]? = some c) (h2 : ∀ (k : Nat), k < o → l[k]? ≠ some c) : splitB c l = l.take o :: splitB c (l.drop (o + 1)) := by
  have ho := (List.getElem?_eq_some_iff.1 h1).1
  have e : l = l.take o ++ c :: l.drop (o + 1) := by
    have := List.take_append_drop o l
    rw [List.drop_eq_getElem_cons ho, (List.getElem?_eq_some_iff.1 h1).2] at this
    exact this.symm
  have hno : ∀ x ∈ l.take o, x ≠ c := by
    intro x hx e
    obtain ⟨k, hk, hk2⟩ := List.mem_iff_getElem.1 hx
    have hk3 : k < o := by simp at hk; omega
    apply h2 k hk3
    rw [← e, ← hk2, List.getElem_take]
    exact List.getElem?_eq_getElem _
  have := splitB_cons (c := c) (l.take o) (l.drop (o + 1)) hno
  rw [← e] at this
  exact this
theorem splitK_all (c : UInt8) : ∀ (k : Nat) (l : List UInt8), (splitB c l).length ≤ k + 1 → Lib.splitK [c] 0 k l = splitB c l
  | 0, l, h => by
    obtain ⟨p, q, e⟩ := splitB_some (c := c) l
    have hq : q = [] := by
      rw [e] at h
      simp only [List.length_cons] at h
      exact List.length_eq_zero_iff.1 (by omega)
    by_cases hc : ∀ x ∈ l, x ≠ c
    · rw [splitB_one l hc]; rfl
    · exfalso
      cases hi : Lib.indexByte l c with
      | negSucc n =>
        have : Lib.indexByte l c = -1 := by have := Lib.indexByte_ge l c; omega
        apply hc
        intro x hx e2
        obtain ⟨j, hj, hj2⟩ := List.mem_iff_getElem.1 hx
        exact Lib.indexByte_none this j (by rw [List.getElem?_eq_getElem hj, hj2, e2])
      | ofNat o =>
        obtain ⟨h1, h2⟩ := Lib.indexByte_some (l := l) (c := c) (o := o) hi
        have := split_at h1 h2
        obtain ⟨p2, q2, e3⟩ := splitB_some (c := c) (l.drop (o + 1))
        rw [this, e3] at h
        simp at h
  | k + 1, l, h => by
    unfold Lib.splitK
    rw [Lib.index_one]
    cases hi : Lib.indexByte l c with
    | negSucc n =>
      have hm : Lib.indexByte l c = -1 := by have := Lib.indexByte_ge l c; omega
      have e1 : (Int.negSucc n == -1) = true := by rw [← hi, hm]; rfl
      rw [if_pos e1]
      refine (splitB_one l ?_).symm
      intro x hx e2
      obtain ⟨j, hj, hj2⟩ := List.mem_iff_getElem.1 hx
      exact Lib.indexByte_none hm j (by rw [List.getElem?_eq_getElem hj, hj2, e2])
    | ofNat o =>
      obtain ⟨h1, h2⟩ := Lib.indexByte_some (l := l) (c := c) (o := o) hi
      have e0 := split_at h1 h2
      rw [if_neg (by intro e; have := beq_iff_eq.1 e; simp at this)]
      rw [e0] at h ⊢
      simp only [List.length_cons] at h
      have ih := splitK_all c k (l.drop (o + 1)) (by omega)
      show l.take (o + 0) :: Lib.splitK [c] 0 k (l.drop (o + 1)) = _
      rw [ih, Nat.add_zero]
theorem splitK_cut (c : UInt8) : ∀ (k : Nat) (l : List UInt8), k + 1 < (splitB c l).length → (Lib.splitK [c] 0 k l).length = k + 1
  | 0, l, _ => rfl
  | k + 1, l, h => by
    unfold Lib.splitK
    rw [Lib.index_one]
    cases hi : Lib.indexByte l c with
    | negSucc n =>
      exfalso
      have hm : Lib.indexByte l c = -1 := by have := Lib.indexByte_ge l c; omega
      have : splitB c l = [l] := by
        refine splitB_one l ?_
        intro x hx e2
        obtain ⟨j, hj, hj2⟩ := List.mem_iff_getElem.1 hx
        exact Lib.indexByte_none hm j (by rw [List.getElem?_eq_getElem hj, hj2, e2])
      rw [this] at h
      simp at h
    | ofNat o =>
      obtain ⟨h1, h2⟩ := Lib.indexByte_some (l := l) (c := c) (o := o) hi
      have e0 := split_at h1 h2
      rw [if_neg (by intro e; have := beq_iff_eq.1 e; simp at this)]
      rw [e0] at h
      simp only [List.length_cons] at h ⊢
      have ih := splitK_cut c k (l.drop (o + 1)) (by omega)
      show (Lib.splitK [c] 0 k (l.drop (o + 1))).length + 1 = _
      rw [ih]
/-- n words are found just where there are n, and then they are these. -/
theorem splitK_words (c : UInt8) (n : Nat) (l : List UInt8) (hn : 1 ≤ n) : ((Lib.splitK [c] 0 (min (n + 1) (l.length + 1) - 1) l).length = n ↔ (splitB c l).length = n) ∧ ((splitB c l).length = n → Lib.splitK [c] 0 (min (n + 1) (l.length + 1) - 1) l = splitB c l) := by
  have e : min (n + 1) (l.length + 1) - 1 = min n l.length := by omega
  rw [e]
  have hl := splitB_len c l
  by_cases h : (splitB c l).length ≤ min n l.length + 1
  · have ha := splitK_all c _ l h
    rw [ha]
    exact ⟨Iff.rfl, fun _ => rfl⟩
  · have hc := splitK_cut c (min n l.length) l (by omega)
    rw [hc]
    refine ⟨⟨fun h1 => ?_, fun h1 => ?_⟩, fun h1 => ?_⟩ <;> omega
/-- The words of a line of that kind, n of them. -/
def lineWords (kind : List UInt8) (n : Nat) (l : List UInt8) : Option (List (List UInt8)) := match splitB 32 l with
  | [] => none
  | k :: ws => if k = kind ∧ ws.length = n then some ws else none
theorem split_back {c : UInt8} : ∀ {l p q : List UInt8} {r : List (List UInt8)}, splitB c l = p :: q :: r → ∃ l', l = p ++ c :: l' ∧ splitB c l' = q :: r
  | [], p, q, r, h => by simp [splitB] at h
  | x :: l, p, q, r, h => by
    unfold splitB at h
    by_cases hx : x = c
    · rw [if_pos hx] at h
      simp only [List.cons.injEq] at h
      obtain ⟨rfl, h2⟩ := h
      exact ⟨l, by rw [hx]; rfl, h2⟩
    · rw [if_neg hx] at h
      obtain ⟨p1, q1, e⟩ := splitB_some (c := c) l
      rw [e] at h
      simp only [List.cons.injEq] at h
      obtain ⟨rfl, rfl⟩ := h
      obtain ⟨l', e1, e2⟩ := split_back e
      exact ⟨l', by rw [e1]; rfl, e2⟩
theorem lineWords_pre {kind l' : List UInt8} {n : Nat} (hk : ∀ x ∈ kind, x ≠ 32) : lineWords kind n (kind ++ 32 :: l') = if (splitB 32 l').length = n then some (splitB 32 l') else none := by
  unfold lineWords
  rw [splitB_cons kind l' hk]
  by_cases h : (splitB 32 l').length = n
  · rw [if_pos h]; exact if_pos ⟨rfl, h⟩
  · rw [if_neg h]; exact if_neg (fun x => h x.2)
theorem lineWords_not {kind l : List UInt8} {n : Nat} (hn : 1 ≤ n) (h : ¬ ∃ l', l = kind ++ 32 :: l') : lineWords kind n l = none := by
  unfold lineWords
  cases e : splitB 32 l with
  | nil => rfl
  | cons k ws =>
    dsimp only
    refine if_neg ?_
    rintro ⟨rfl, h2⟩
    cases ws with
    | nil => simp at h2; omega
    | cons q r =>
      obtain ⟨l', e1, _⟩ := split_back e
      exact h ⟨l', e1⟩
/-- A line with its end begins so just where the line does. -/
theorem pre_line {kind l : List UInt8} (hl : ∀ x ∈ l, x ≠ 10) : Lib.hasPrefix (l ++ [10]) (kind ++ [32]) = true ↔ ∃ l', l = kind ++ 32 :: l' := by
  unfold Lib.hasPrefix
  rw [List.isPrefixOf_iff_prefix]
  constructor
  · rintro ⟨t, ht⟩
    rcases List.eq_nil_or_concat t with rfl | ⟨t', x, rfl⟩
    · exfalso
      rw [List.append_nil] at ht
      have := List.append_inj' ht rfl
      simp at this
    · refine ⟨t', ?_⟩
      rw [List.concat_eq_append, ← List.append_assoc] at ht
      have := (List.append_inj' ht rfl).1
      rw [← this]; simp
  · rintro ⟨l', rfl⟩
    exact ⟨l' ++ [10], by simp⟩
theorem pre_cut {kind l' : List UInt8} : Lib.trimPrefix (kind ++ 32 :: l' ++ [10]) (kind ++ [32]) = l' ++ [10] := by
  unfold Lib.trimPrefix
  have h : Lib.hasPrefix (kind ++ 32 :: l' ++ [10]) (kind ++ [32]) = true := by
    unfold Lib.hasPrefix
    rw [List.isPrefixOf_iff_prefix]
    exact ⟨l' ++ [10], by simp⟩
  rw [if_pos h]
  have e : kind ++ 32 :: l' ++ [10] = (kind ++ [32]) ++ (l' ++ [10]) := by simp
  rw [e, List.drop_left]
theorem suf_line (l : List UInt8) : Lib.hasSuffix (l ++ [10]) [10] = true := by
  unfold Lib.hasSuffix
  rw [List.isSuffixOf_iff_suffix]
  exact ⟨l, rfl⟩
theorem suf_cut (l : List UInt8) : Lib.trimSuffix (l ++ [10]) [10] = l := by
  unfold Lib.trimSuffix
  rw [if_pos (suf_line l)]
  simp
theorem suf_no {l : List UInt8} (h : ∀ x ∈ l, x ≠ 10) : Lib.hasSuffix l [10] = false := by
  rw [← Bool.not_eq_true]
  unfold Lib.hasSuffix
  rw [List.isSuffixOf_iff_suffix]
  rintro ⟨t, rfl⟩
  exact h 10 (by simp) rfl
theorem trimPre_mem {l p : List UInt8} {x : UInt8} (h : x ∈ Lib.trimPrefix l p) : x ∈ l := by
  unfold Lib.trimPrefix at h
  split at h
  · exact List.mem_of_mem_drop h
  · exact h
/-! ### Digits -/
def digs10 : List UInt8 := [48, 49, 50, 51, 52, 53, 54, 55, 56, 57]
theorem digs10_has (c : UInt8) : digs10.contains c = lxDigit c.toNat := by
  have h : ∀ n : Fin 256, digs10.contains (UInt8.ofNat n.val) = lxDigit (UInt8.ofNat n.val).toNat := by decide +kernel
  have := h ⟨c.toNat, c.toNat_lt⟩
  simpa using this
theorem trim_digs (l : List UInt8) : Lib.trimS l digs10 = [] ↔ (l.all fun c => lxDigit c.toNat) = true := by
  have hf : (fun c => digs10.contains c) = fun c : UInt8 => lxDigit c.toNat := funext digs10_has
  have hd : ∀ (p : UInt8 → Bool) (m : List UInt8), m.dropWhile p = [] ↔ m.all p = true := by
    intro p m
    induction m with
    | nil => simp
    | cons x r ih =>
      rw [List.dropWhile_cons, List.all_cons]
      cases p x <;> simp [ih]
  have hr : ∀ (p : UInt8 → Bool) (m : List UInt8), (m.dropWhile p).all p = true ↔ m.dropWhile p = [] := by
    intro p m
    constructor
    · intro h
      cases e : m.dropWhile p with
      | nil => rfl
      | cons x r =>
        have hx := List.head_dropWhile_not p (l := m) (by rw [e]; exact List.cons_ne_nil _ _)
        rw [e] at h
        simp only [e, List.head_cons] at hx
        rw [List.all_cons, hx] at h
        cases h
    · intro h; rw [h]; rfl
  unfold Lib.trimS Lib.trimLeftS Lib.trimRightS
  rw [hf, hd, List.all_reverse, hr, hd, List.all_reverse]
theorem parse_digs : ∀ (l : List UInt8) (acc : Nat), acc ≤ 4294967295 → (l.all fun c => lxDigit c.toNat) = true →
    Lib.parseUintM 4294967295 acc l = if 4294967296 ≤ l.foldl (fun n c => 10 * n + (c.toNat - 48)) acc then .range else .ok (l.foldl (fun n c => 10 * n + (c.toNat - 48)) acc)
  | [], acc, h, _ => by
    show Lib.NumEnd.ok acc = _
    rw [if_neg (by simp only [List.foldl_nil]; omega)]
    rfl
  | c :: r, acc, h, hd => by
    rw [List.all_cons, Bool.and_eq_true] at hd
    have hc : 48 ≤ c.toNat ∧ c.toNat ≤ 57 := by
      have := hd.1
      simp only [lxDigit, Bool.and_eq_true, decide_eq_true_eq] at this
      omega
    unfold Lib.parseUintM
    rw [if_pos hc, if_neg (by omega)]
    have e : acc * 10 + (c.toNat - 48) = 10 * acc + (c.toNat - 48) := by omega
    rw [e, List.foldl_cons]
    by_cases ho : 4294967295 < 10 * acc + (c.toNat - 48)
    · rw [if_pos ho]
      have hg : ∀ (m : List UInt8) (a : Nat), 4294967296 ≤ a → 4294967296 ≤ m.foldl (fun n c => 10 * n + (c.toNat - 48)) a := by
        intro m
        induction m with
        | nil => intro a ha; exact ha
        | cons x m ih => intro a ha; rw [List.foldl_cons]; exact ih _ (by omega)
      rw [if_pos (hg r _ (by omega))]
    · rw [if_neg ho]
      exact parse_digs r _ (by omega) hd.2
theorem parse_numD {l : List UInt8} (h : ¬ (l = [] ∨ (l.head? = some 48 ∧ 1 < l.length) ∨ (l.all fun c => lxDigit c.toNat) = false)) :
    (∃ u, Lib.parseUintB 32 l = .ok u ∧ numD l = .ok u ∧ u < 4294967296) ∨ (Lib.parseUintB 32 l = .range ∧ numD l = .error 14) := by
  have h0 : ¬ l = [] := fun e => h (.inl e)
  have hd : (l.all fun c => lxDigit c.toNat) = true := by
    cases e : l.all fun c => lxDigit c.toNat with
    | true => rfl
    | false => exact absurd (.inr (.inr e)) h
  unfold Lib.parseUintB numD
  rw [if_neg h0, if_neg h, show 2 ^ 32 - 1 = 4294967295 by decide, parse_digs l 0 (by omega) hd]
  by_cases ho : 4294967296 ≤ l.foldl (fun n c => 10 * n + (c.toNat - 48)) 0
  · rw [if_pos ho, if_pos ho]; exact .inr ⟨rfl, rfl⟩
  · rw [if_neg ho, if_neg ho]; exact .inl ⟨_, rfl, rfl, by omega⟩
end Go.Proofs.YteddflbidafebaaGreatDoor
