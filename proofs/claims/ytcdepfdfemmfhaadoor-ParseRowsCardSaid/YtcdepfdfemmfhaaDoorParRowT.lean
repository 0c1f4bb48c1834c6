/- The text of ParseRows, plain: items between commas, one of them in brackets; its words and operands. -/
import Derived.Test.YtcdepfdfemmfhaaDoorLexCat
import Derived.Test.YtcdepfdfemmfhaaDoorParTab
namespace Go.Proofs.YtcdepfdfemmfhaaDoor
set_option linter.unusedVariables false
set_option linter.unusedSimpArgs false
open Go.RowKit
abbrev RItem := Bool × Nat
def itemB (x : RItem) : List UInt8 := if x.1 = true then [40, 49, 44, 32, 50, 44, 32] ++ (cName x.2).data.toList ++ [41] else (cName x.2).data.toList
def itemT (x : RItem) : List Tok := if x.1 = true then [⟨3, sLeft, 0, 0⟩, ⟨2, strL [49], 1, 1⟩, ⟨3, sComma, 0, 2⟩, ⟨2, strL [50], 2, 4⟩, ⟨3, sComma, 0, 5⟩, ⟨1, cName x.2, 0, 7⟩, ⟨3, sRight, 0, 7 + (cName x.2).size⟩] else [⟨1, cName x.2, 0, 0⟩]
theorem item_lex0 : ∀ n : Nat, n < 16 → lexL (itemB (false, n)) 0 = .ok (itemT (false, n))
  | 0, _ => by kernel_rfl
  | 1, _ => by kernel_rfl
  | 2, _ => by kernel_rfl
  | 3, _ => by kernel_rfl
  | 4, _ => by kernel_rfl
  | 5, _ => by kernel_rfl
  | 6, _ => by kernel_rfl
  | 7, _ => by kernel_rfl
  | 8, _ => by kernel_rfl
  | 9, _ => by kernel_rfl
  | 10, _ => by kernel_rfl
  | 11, _ => by kernel_rfl
  | 12, _ => by kernel_rfl
  | 13, _ => by kernel_rfl
  | 14, _ => by kernel_rfl
  | 15, _ => by kernel_rfl
  | n + 16, h => absurd h (by omega)
theorem item_lex1 : ∀ n : Nat, n < 16 → lexL (itemB (true, n)) 0 = .ok (itemT (true, n))
  | 0, _ => by kernel_rfl
  | 1, _ => by kernel_rfl
  | 2, _ => by kernel_rfl
  | 3, _ => by kernel_rfl
  | 4, _ => by kernel_rfl
  | 5, _ => by kernel_rfl
  | 6, _ => by kernel_rfl
  | 7, _ => by kernel_rfl
  | 8, _ => by kernel_rfl
  | 9, _ => by kernel_rfl
  | 10, _ => by kernel_rfl
  | 11, _ => by kernel_rfl
  | 12, _ => by kernel_rfl
  | 13, _ => by kernel_rfl
  | 14, _ => by kernel_rfl
  | 15, _ => by kernel_rfl
  | n + 16, h => absurd h (by omega)
theorem item_reg : ∀ n : Nat, n < 16 → regL (itemT (false, n)) = some n
  | 0, _ => by kernel_rfl
  | 1, _ => by kernel_rfl
  | 2, _ => by kernel_rfl
  | 3, _ => by kernel_rfl
  | 4, _ => by kernel_rfl
  | 5, _ => by kernel_rfl
  | 6, _ => by kernel_rfl
  | 7, _ => by kernel_rfl
  | 8, _ => by kernel_rfl
  | 9, _ => by kernel_rfl
  | 10, _ => by kernel_rfl
  | 11, _ => by kernel_rfl
  | 12, _ => by kernel_rfl
  | 13, _ => by kernel_rfl
  | 14, _ => by kernel_rfl
  | 15, _ => by kernel_rfl
  | n + 16, h => absurd h (by omega)
theorem item_semi : ∀ n : Nat, n < 16 → ((itemB (false, n)).all fun b => decide ((b.toNat : Int) ≠ 59)) = true ∧ ((itemB (true, n)).all fun b => decide ((b.toNat : Int) ≠ 59)) = true
  | 0, _ => by exact ⟨by kernel_rfl, by kernel_rfl⟩
  | 1, _ => by exact ⟨by kernel_rfl, by kernel_rfl⟩
  | 2, _ => by exact ⟨by kernel_rfl, by kernel_rfl⟩
  | 3, _ => by exact ⟨by kernel_rfl, by kernel_rfl⟩
  | 4, _ => by exact ⟨by kernel_rfl, by kernel_rfl⟩
  | 5, _ => by exact ⟨by kernel_rfl, by kernel_rfl⟩
  | 6, _ => by exact ⟨by kernel_rfl, by kernel_rfl⟩
  | 7, _ => by exact ⟨by kernel_rfl, by kernel_rfl⟩
  | 8, _ => by exact ⟨by kernel_rfl, by kernel_rfl⟩
  | 9, _ => by exact ⟨by kernel_rfl, by kernel_rfl⟩
  | 10, _ => by exact ⟨by kernel_rfl, by kernel_rfl⟩
  | 11, _ => by exact ⟨by kernel_rfl, by kernel_rfl⟩
  | 12, _ => by exact ⟨by kernel_rfl, by kernel_rfl⟩
  | 13, _ => by exact ⟨by kernel_rfl, by kernel_rfl⟩
  | 14, _ => by exact ⟨by kernel_rfl, by kernel_rfl⟩
  | 15, _ => by exact ⟨by kernel_rfl, by kernel_rfl⟩
  | n + 16, h => absurd h (by omega)
theorem item_lex {x : RItem} (h : x.2 < 16) : lexL (itemB x) 0 = .ok (itemT x) := by
  obtain ⟨b, n⟩ := x
  cases b
  · exact item_lex0 n h
  · exact item_lex1 n h
theorem item_no {x : RItem} (h : x.2 < 16) : ∀ b ∈ itemB x, (b.toNat : Int) ≠ 59 := by
  obtain ⟨b, n⟩ := x
  obtain ⟨h0, h1⟩ := item_semi n h
  intro c hc
  cases b
  · exact of_decide_eq_true (List.all_eq_true.1 h0 c hc)
  · exact of_decide_eq_true (List.all_eq_true.1 h1 c hc)
/-- Alike, word by word. -/
def Alike : List Tok → List Tok → Prop
  | [], [] => True
  | u :: us, t :: ts => u.like t ∧ Alike us ts
  | _, _ => False
theorem alike_of : ∀ (us ts : List Tok), us.length = ts.length → (∀ (q : Nat) (t : Tok), ts[q]? = some t → ∃ u : Tok, us[q]? = some u ∧ u.like t) → Alike us ts
  | [], [], _, _ => trivial
  | [], t :: ts, h, _ => by simp at h
  | u :: us, [], h, _ => by simp at h
  | u :: us, t :: ts, h, hx => by
    refine ⟨?_, alike_of us ts (by simpa using h) fun q t' ht => ?_⟩
    · obtain ⟨v, h1, h2⟩ := hx 0 t rfl
      cases h1
      exact h2
    · obtain ⟨v, h1, h2⟩ := hx (q + 1) t' (by simpa using ht)
      exact ⟨v, by simpa using h1, h2⟩
theorem Alike.length : ∀ {us ts : List Tok}, Alike us ts → us.length = ts.length
  | [], [], _ => rfl
  | _ :: _, _ :: _, h => by have := Alike.length h.2; simp [this]
theorem tokIs_like {u t : Tok} (h : u.like t) (s : ByteArray) : tokIs u s = tokIs t s := by
  obtain ⟨h1, h2, _⟩ := h
  unfold tokIs; rw [h1, h2]
/-- Words of one operand: no comma between operands among them. -/
def opRun : List Tok → Nat → Option Nat
  | [], o => some o
  | t :: r, o => if o = 0 ∧ tokIs t sComma = true then none else opRun r (openAfter t o)
theorem opRun_like : ∀ {us ts : List Tok} (_ : Alike us ts) (o : Nat), opRun us o = opRun ts o
  | [], [], _, _ => rfl
  | u :: us, t :: ts, h, o => by
    have e : openAfter u o = openAfter t o := by unfold openAfter; rw [tokIs_like h.1, tokIs_like h.1]
    show (if o = 0 ∧ tokIs u sComma = true then none else opRun us (openAfter u o)) = (if o = 0 ∧ tokIs t sComma = true then none else opRun ts (openAfter t o))
    rw [tokIs_like h.1, e, opRun_like h.2]
theorem opsL_run : ∀ (ts rest : List Tok) (a o o' : Nat) (out : List (List Tok)) (one : List Tok), opRun ts o = some o' → opsL (ts ++ rest) a out one o = opsL rest (a + ts.length) out (one ++ ts) o'
  | [], rest, a, o, o', out, one, h => by cases h; simp
  | t :: r, rest, a, o, o', out, one, h => by
    have h : (if o = 0 ∧ tokIs t sComma = true then none else opRun r (openAfter t o)) = some o' := h
    by_cases hc : o = 0 ∧ tokIs t sComma = true
    · rw [if_pos hc] at h; cases h
    · rw [if_neg hc] at h
      show (if o = 0 ∧ tokIs t sComma = true then (if one = [] then Except.error a else opsL (r ++ rest) (a + 1) (out ++ [one]) [] 0) else opsL (r ++ rest) (a + 1) out (one ++ [t]) (openAfter t o)) = _
      rw [if_neg hc, opsL_run r rest (a + 1) _ o' out _ h]
      simp only [List.length_cons, List.append_assoc, List.cons_append, List.nil_append]
      rw [show a + 1 + r.length = a + (r.length + 1) by omega]
theorem item_run (x : RItem) : opRun (itemT x) 0 = some 0 := by
  obtain ⟨b, n⟩ := x
  cases b
  · kernel_rfl
  · kernel_rfl
theorem item_ne (x : RItem) : itemT x ≠ [] := by
  obtain ⟨b, n⟩ := x
  cases b <;> simp [itemT]
def joined : List RItem → List UInt8
  | [] => []
  | [x] => itemB x
  | x :: y :: r => itemB x ++ 44 :: 32 :: joined (y :: r)
def RowsAlike : List (List Tok) → List RItem → Prop
  | [], [] => True
  | us :: r, x :: xs => Alike us (itemT x) ∧ RowsAlike r xs
  | _, _ => False
theorem item_on {x : RItem} (h : x.2 < 16) (i : Nat) : ∃ us, lexL (itemB x) i = .ok us ∧ Alike us (itemT x) := by
  obtain ⟨us, h1, h2, h3⟩ := lexL_on _ _ 0 i _ (Nat.le_refl _) (item_lex h)
  exact ⟨us, h1, alike_of _ _ h2 h3⟩
theorem stops_comma : Stops 44 := ⟨by decide, by decide, by decide⟩
theorem lexL_comma (r : List UInt8) (i : Nat) : lexL (44 :: 32 :: r) i = lexApp [⟨3, sComma, 0, i⟩] (lexL r (i + 2)) := by
  have h : oneL (44 :: 32 :: r) = .ok (⟨3, sComma, 0, 0⟩, 1) := by kernel_rfl
  rw [lexL_ok i (by decide) (by decide) h]
  show lexApp _ (lexL (32 :: r) (i + 1)) = _
  rw [lexL_blank _ (by decide)]
theorem joined_lex : ∀ (r : List RItem) (x : RItem) (i : Nat), (∀ y ∈ x :: r, y.2 < 16) → ∃ ts uss, lexL (joined (x :: r)) i = .ok ts ∧ RowsAlike uss (x :: r) ∧ ts ≠ [] ∧ ∀ a out, opsL ts a out [] 0 = .ok (out ++ uss)
  | [], x, i, hx => by
    obtain ⟨us, h1, h2⟩ := item_on (hx x (by simp)) i
    have hn : us ≠ [] := fun e => item_ne x (List.length_eq_zero_iff.1 (by rw [← h2.length, e]; rfl))
    refine ⟨us, [us], h1, ⟨h2, trivial⟩, hn, fun a out => ?_⟩
    have hr : opRun us 0 = some 0 := by rw [opRun_like h2, item_run]
    have := opsL_run us [] a 0 0 out [] hr
    rw [List.append_nil, List.nil_append] at this
    rw [this]
    show (if us = [] then Except.error (a + us.length) else Except.ok (out ++ [us])) = _
    rw [if_neg hn]
  | y :: r, x, i, hx => by
    obtain ⟨us, h1, h2⟩ := item_on (hx x (by simp)) i
    have hn : us ≠ [] := fun e => item_ne x (List.length_eq_zero_iff.1 (by rw [← h2.length, e]; rfl))
    obtain ⟨ts, uss, h3, h4, h5, h6⟩ := joined_lex r y (i + (itemB x).length + 2) fun z hz => hx z (List.mem_cons_of_mem _ hz)
    refine ⟨us ++ ⟨3, sComma, 0, (i + (itemB x).length : Nat)⟩ :: ts, us :: uss, ?_, ⟨h2, h4⟩, by simp, fun a out => ?_⟩
    · show lexL (itemB x ++ 44 :: (32 :: joined (y :: r))) i = _
      rw [lexL_cat stops_comma _ _ i us (Nat.le_refl _) h1 (item_no (hx x (by simp))), lexL_comma, h3]
      rfl
    · have hr : opRun us 0 = some 0 := by rw [opRun_like h2, item_run]
      rw [opsL_run us _ a 0 0 out [] hr, List.nil_append]
      have hc : tokIs ⟨3, sComma, 0, (i + (itemB x).length : Nat)⟩ sComma = true := by simp [tokIs]
      show (if 0 = 0 ∧ tokIs ⟨3, sComma, 0, (i + (itemB x).length : Nat)⟩ sComma = true then (if us = [] then Except.error (a + us.length) else opsL ts (a + us.length + 1) (out ++ [us]) [] 0) else _) = _
      rw [if_pos ⟨rfl, hc⟩, if_neg hn, h6]
      simp
def headB : List UInt8 := [108, 97, 98, 58, 32, 111, 112, 32]
def labB : ByteArray := ⟨#[108, 97, 98]⟩
def opB : ByteArray := ⟨#[111, 112]⟩
theorem head_lex (r : List UInt8) : lexL (headB ++ r) 0 = lexApp [⟨1, labB, 0, 0⟩, ⟨3, sColon, 0, 3⟩, ⟨1, opB, 0, 5⟩] (lexL r 8) := by
  have a : oneL (headB ++ r) = .ok (⟨1, labB, 0, 0⟩, 3) := by kernel_rfl
  have b : oneL (58 :: 32 :: 111 :: 112 :: 32 :: r) = .ok (⟨3, sColon, 0, 0⟩, 1) := by kernel_rfl
  have c : oneL (111 :: 112 :: 32 :: r) = .ok (⟨1, opB, 0, 0⟩, 2) := by kernel_rfl
  have e1 := lexL_ok (c := 108) (r := 97 :: 98 :: 58 :: 32 :: 111 :: 112 :: 32 :: r) 0 (by decide) (by decide) a
  have e2 := lexL_ok (c := 58) (r := 32 :: 111 :: 112 :: 32 :: r) 3 (by decide) (by decide) b
  have e3 := lexL_ok (c := 111) (r := 112 :: 32 :: r) 5 (by decide) (by decide) c
  have f1 : lexL (headB ++ r) 0 = lexApp [⟨1, labB, 0, 0⟩] (lexL (58 :: 32 :: 111 :: 112 :: 32 :: r) 3) := e1
  have f2 : lexL (58 :: 32 :: 111 :: 112 :: 32 :: r) 3 = lexApp [⟨3, sColon, 0, 3⟩] (lexL (32 :: 111 :: 112 :: 32 :: r) 4) := e2
  have f3 : lexL (111 :: 112 :: 32 :: r) 5 = lexApp [⟨1, opB, 0, 5⟩] (lexL (32 :: r) 7) := e3
  rw [f1, f2, lexL_blank 4 (by decide), f3, lexL_blank 7 (by decide), ← lexApp_app, ← lexApp_app]
  rfl
/-- ParseRows's line. -/
theorem rows_line {x : RItem} {r : List RItem} (hx : ∀ y ∈ x :: r, y.2 < 16) : ∃ ts uss, lexL (headB ++ joined (x :: r)) 0 = .ok ts ∧ lineL ts = .ok ⟨labB, opB, false, uss⟩ ∧ RowsAlike uss (x :: r) := by
  obtain ⟨ts, uss, h3, h4, h5, h6⟩ := joined_lex r x 8 hx
  refine ⟨⟨1, labB, 0, 0⟩ :: ⟨3, sColon, 0, 3⟩ :: ⟨1, opB, 0, 5⟩ :: ts, uss, by rw [head_lex, h3]; rfl, ?_, h4⟩
  have hr : (regL [⟨1, labB, 0, 0⟩]).isSome = false := by kernel_rfl
  have hc : tokIs ⟨3, sColon, 0, 3⟩ sColon = true := by kernel_rfl
  have ht : ts.length ≠ 0 := fun e => h5 (List.length_eq_zero_iff.1 e)
  show (if (1 : Int) = 1 ∧ tokIs ⟨3, sColon, 0, 3⟩ sColon = true then (if (regL [⟨1, labB, 0, 0⟩]).isSome = true then Except.error (0, 12) else restL (⟨1, labB, 0, 0⟩ :: ⟨3, sColon, 0, 3⟩ :: ⟨1, opB, 0, 5⟩ :: ts) labB 2) else restL (⟨1, labB, 0, 0⟩ :: ⟨3, sColon, 0, 3⟩ :: ⟨1, opB, 0, 5⟩ :: ts) noB 0) = _
  rw [if_pos ⟨rfl, hc⟩, if_neg (by rw [hr]; decide)]
  have e : ((⟨1, labB, 0, 0⟩ : Tok) :: ⟨3, sColon, 0, 3⟩ :: ⟨1, opB, 0, 5⟩ :: ts)[2]? = some ⟨1, opB, 0, 5⟩ := rfl
  have d : ((⟨1, labB, 0, 0⟩ : Tok) :: ⟨3, sColon, 0, 3⟩ :: ⟨1, opB, 0, 5⟩ :: ts).drop (2 + 1) = ts := rfl
  unfold restL
  rw [e, d, h6]
  dsimp only
  rw [if_neg (by omega), if_neg (by simp only [List.length_cons]; omega)]
  rfl
theorem RowsAlike.length : ∀ {us : List (List Tok)} {xs : List RItem}, RowsAlike us xs → us.length = xs.length
  | [], [], _ => rfl
  | _ :: _, _ :: _, h => by have := RowsAlike.length h.2; simp [this]
theorem RowsAlike.get : ∀ {us : List (List Tok)} {xs : List RItem} (_ : RowsAlike us xs) (i : Nat) (u : List Tok) (x : RItem), us[i]? = some u → xs[i]? = some x → Alike u (itemT x)
  | [], [], _, i, u, x, h, _ => by simp at h
  | v :: us, y :: xs, h, 0, u, x, h1, h2 => by cases h1; cases h2; exact h.1
  | v :: us, y :: xs, h, i + 1, u, x, h1, h2 => RowsAlike.get h.2 i u x (by simpa using h1) (by simpa using h2)
/-- What Reg says of an operand. -/
theorem regL_item {u : List Tok} {x : RItem} (h : Alike u (itemT x)) (hx : x.2 < 16) : regL u = if x.1 = true then none else some x.2 := by
  obtain ⟨b, n⟩ := x
  cases b
  · rw [if_neg (by simp), ← item_reg n hx]
    match u, h with
    | [v], h =>
      obtain ⟨⟨h1, h2, _⟩, _⟩ := h
      show (if v.kind = 1 then regNo v.text else none) = (if (1 : Int) = 1 then regNo (cName n) else none)
      rw [h1, h2]
  · rw [if_pos rfl]
    have hl := h.length
    match u, hl with
    | _ :: _ :: _, _ => rfl
theorem joined_snoc : ∀ (l : List RItem) (x : RItem), joined (l ++ [x]) = if l = [] then itemB x else joined l ++ 44 :: 32 :: itemB x
  | [], x => rfl
  | [y], x => rfl
  | y :: z :: r, x => by
    have := joined_snoc (z :: r) x
    rw [if_neg (by simp)] at this
    rw [if_neg (by simp)]
    show itemB y ++ 44 :: 32 :: joined (z :: r ++ [x]) = _
    rw [this]
    show _ = (itemB y ++ 44 :: 32 :: joined (z :: r)) ++ 44 :: 32 :: itemB x
    simp
end Go.Proofs.YtcdepfdfemmfhaaDoor
