/- ParseRows's text, as the program tells it, byte row by byte row. -/
import Derived.Test.YtcdepfdfemmfhaaDoorParRowT
import Derived.Test.YtcdepfdfemmfhaaDoorDec
namespace Go.Proofs.YtcdepfdfemmfhaaDoor
set_option linter.unusedVariables false
set_option linter.unusedSimpArgs false
open Go.RowKit
theorem strL_app (a b : List UInt8) : strL a ++ strL b = strL (a ++ b) := by
  apply ByteArray.ext; simp [strL, ByteArray.data_append]
theorem strL_sz (a : List UInt8) : (strL a).size = a.length := by
  show (a.toArray).size = _; simp
theorem strL_ls (a : List UInt8) : (strL a).data.toList = a := by simp [strL]
/-- Bytes lie where a slice says. -/
def BytesAt (w : World) (v : Value) (xs : List Nat) : Prop := ∃ p cap, v = .slice p xs.length cap ∧ (xs = [] ∨ ∃ b off, p = some ⟨b, off, none⟩ ∧ b < w.heap.size ∧ ∀ (i x : Nat), xs[i]? = some x → w.cell? ⟨b, off + i, none⟩ = some (.int .u8 (x : Int)))
def decB (n : Nat) : ByteArray := ⟨(Lib.decDigits n).toArray⟩
theorem rName_dec {n : Nat} (h : n < 16) : (cName n).data.toList = 99 :: Lib.decDigits n ∧ (Lib.decDigits n).length ≤ 2 := by
  by_cases h10 : n < 10
  · rw [dec_last n h10]
    unfold cName
    rw [if_pos h10, strL_ls]
    exact ⟨rfl, by simp⟩
  · rw [dec_step n (by omega), dec_last (n / 10) (by omega)]
    unfold cName
    rw [if_neg h10, strL_ls]
    have a : n / 10 = 1 := by omega
    have b : n % 10 = n - 10 := by omega
    rw [a, b]
    exact ⟨rfl, by simp⟩
theorem decB_size {n : Nat} (h : n < 16) : (decB n).size ≤ 2 := by
  have := (rName_dec h).2
  show ((Lib.decDigits n).toArray).size ≤ 2
  simpa using this
def xItem (b : Bool) (n : Nat) : ByteArray := if b = true then (⟨#[40, 49, 44, 32, 50, 44, 32]⟩ ++ (⟨#[99]⟩ ++ decB n)) ++ ⟨#[41]⟩ else ⟨#[99]⟩ ++ decB n
theorem xItem_is {b : Bool} {n : Nat} (h : n < 16) : xItem b n = strL (itemB (b, n)) := by
  have e : (⟨#[99]⟩ : ByteArray) ++ decB n = strL (cName n).data.toList := by
    rw [(rName_dec h).1]
    exact strL_app [99] (Lib.decDigits n)
  cases b
  · exact e
  · show (strL [40, 49, 44, 32, 50, 44, 32] ++ ((⟨#[99]⟩ : ByteArray) ++ decB n)) ++ strL [41] = _
    rw [e, strL_app, strL_app]
    rfl
theorem xItem_size {b : Bool} {n : Nat} (h : n < 16) : (xItem b n).size ≤ 11 := by
  have := decB_size h
  unfold xItem
  split <;> simp only [ByteArray.size_append] <;> show _ ≤ _ <;> simp only [ByteArray.size, List.size_toArray, List.length_cons, List.length_nil] at this ⊢ <;> omega
def rItems (xs : List Nat) (q : Nat) : List RItem := xs.mapIdx fun i x => (decide (i = q), x % 16)
theorem rItems_length (xs : List Nat) (q : Nat) : (rItems xs q).length = xs.length := by simp [rItems]
theorem rItems_get {xs : List Nat} {q i x : Nat} (h : xs[i]? = some x) : (rItems xs q)[i]? = some (decide (i = q), x % 16) := by simp [rItems, h]
theorem rItems_lt {xs : List Nat} {q : Nat} : ∀ y ∈ rItems xs q, y.2 < 16 := by
  intro y hy
  obtain ⟨i, hi⟩ := List.getElem?_of_mem hy
  simp only [rItems, List.getElem?_mapIdx, Option.map_eq_some_iff] at hi
  obtain ⟨x, _, rfl⟩ := hi
  exact Nat.mod_lt _ (by decide)
def rowText (xs : List Nat) (q k : Nat) : ByteArray := strL (headB ++ joined ((rItems xs q).take k))
theorem rowText_zero (xs : List Nat) (q : Nat) : rowText xs q 0 = ⟨#[108, 97, 98, 58, 32, 111, 112, 32]⟩ := rfl
theorem rowText_succ {xs : List Nat} {q k x : Nat} (h : xs[k]? = some x) : rowText xs q (k + 1) = (if k = 0 then rowText xs q k else rowText xs q k ++ ⟨#[44, 32]⟩) ++ xItem (decide (k = q)) (x % 16) := by
  have hk : k < xs.length := (List.getElem?_eq_some_iff.1 h).1
  have e : (rItems xs q).take (k + 1) = (rItems xs q).take k ++ [(decide (k = q), x % 16)] := by
    rw [List.take_add_one, rItems_get h]; rfl
  unfold rowText
  rw [e, joined_snoc, xItem_is (Nat.mod_lt _ (by decide))]
  by_cases h0 : k = 0
  · subst h0
    rw [if_pos rfl, if_pos (by simp), strL_app]
    simp [joined]
  · have hn : (rItems xs q).take k ≠ [] := fun e => by
      have := congrArg List.length e
      rw [List.length_take, rItems_length, List.length_nil] at this
      omega
    rw [if_neg h0, if_neg hn]
    show _ = (strL _ ++ strL [44, 32]) ++ strL _
    rw [strL_app, strL_app]
    simp
theorem rowText_size {xs : List Nat} {q : Nat} : ∀ k, k ≤ xs.length → (rowText xs q k).size ≤ 8 + 13 * k
  | 0, _ => by rw [rowText_zero]; decide
  | k + 1, hk => by
    obtain ⟨x, hx⟩ : ∃ x, xs[k]? = some x := ⟨_, List.getElem?_eq_getElem (by omega)⟩
    have h1 := rowText_size (xs := xs) (q := q) k (by omega)
    have h2 := xItem_size (b := decide (k = q)) (n := x % 16) (Nat.mod_lt _ (by decide))
    rw [rowText_succ hx, ByteArray.size_append]
    split
    · omega
    · rw [ByteArray.size_append]
      have : (⟨#[44, 32]⟩ : ByteArray).size = 2 := rfl
      omega
/-- What the whole text says. -/
theorem rowText_line {xs : List Nat} {q : Nat} (h : xs ≠ []) : ∃ ts uss, lexL (rowText xs q xs.length).data.toList 0 = .ok ts ∧ lineL ts = .ok ⟨labB, opB, false, uss⟩ ∧ uss.length = xs.length ∧ ∀ (i x : Nat), xs[i]? = some x → ∃ u, uss[i]? = some u ∧ u.length ≤ 7 ∧ regL u = if i = q then none else some (x % 16) := by
  have hl := rItems_length xs q
  obtain ⟨y, r, e⟩ : ∃ y r, rItems xs q = y :: r := by
    match hr : rItems xs q with
    | [] => rw [hr] at hl; exact absurd (List.length_eq_zero_iff.1 hl.symm) h
    | y :: r => exact ⟨y, r, rfl⟩
  have hlt : ∀ z ∈ y :: r, z.2 < 16 := fun z hz => rItems_lt (xs := xs) (q := q) z (by rw [e]; exact hz)
  obtain ⟨ts, uss, h1, h2, h3⟩ := rows_line hlt
  refine ⟨ts, uss, ?_, h2, ?_, fun i x hx => ?_⟩
  · unfold rowText
    rw [strL_ls, ← hl, List.take_length, e]
    exact h1
  · rw [h3.length, ← e, hl]
  · have hi := (List.getElem?_eq_some_iff.1 hx).1
    have hu : i < uss.length := by rw [h3.length, ← e, hl]; exact hi
    obtain ⟨u, hu⟩ : ∃ u, uss[i]? = some u := ⟨_, List.getElem?_eq_getElem hu⟩
    have hg := rItems_get (q := q) hx
    rw [e] at hg
    have ha := h3.get i u _ hu hg
    refine ⟨u, hu, ?_, ?_⟩
    · rw [ha.length]; unfold itemT; split <;> simp
    · rw [regL_item ha (Nat.mod_lt _ (by decide))]
      by_cases hq : i = q
      · rw [if_pos hq, if_pos (decide_eq_true hq)]
      · rw [if_neg hq, if_neg (by simp [hq])]
end Go.Proofs.YtcdepfdfemmfhaaDoor
