/- Constants of the assembler, plain: two in brackets with a sign between; one in brackets behind a sign. -/
import Derived.Test.YtockkidbncpdlaaDoorLexCat
namespace Go.Proofs.YtockkidbncpdlaaDoor
set_option linter.unusedVariables false
set_option linter.unusedSimpArgs false
open Go.RowKit
/-- A text that is a constant, whole, without names, without a remark. -/
def Whole (l : List UInt8) (v : Int) : Prop := ∃ ts, lexL l 0 = .ok ts ∧ (∀ b ∈ l, (b.toNat : Int) ≠ 59) ∧ Ev ts [] (.lev 0 0) 0 (.ok v ts.length)
theorem Whole.same {l : List UInt8} {v v' : Int} (h : Whole l v) (h' : Whole l v') : v = v' := by
  obtain ⟨ts, h1, _, h3⟩ := h
  obtain ⟨us, g1, _, g3⟩ := h'
  rw [h1] at g1
  cases g1
  have := Ev.same h3 g3
  cases this
  rfl
/-- A byte that is a sign, alone. -/
structure IsSign (c : UInt8) : Prop where
  stops : Stops c
  quote : (c.toNat : Int) ≠ 34
  mem : (c.toNat : Int) ∈ lxSigns
theorem IsSign.ne {c : UInt8} (h : IsSign c) : (c.toNat : Int) ≠ 59 ∧ ¬ ((c.toNat : Int) = 32 ∨ (c.toNat : Int) = 9) := by
  have := h.mem
  simp only [lxSigns, List.mem_cons, List.not_mem_nil, or_false] at this
  omega
theorem oneL_sign {c : UInt8} {r : List UInt8} (h : IsSign c) : oneL (c :: r) = .ok (⟨3, strL [c], 0, 0⟩, 1) := by
  have h46 : ¬ (c.toNat : Int) = 46 := by
    have := h.stops.word
    simp only [lxWord, Bool.or_eq_false_iff, beq_eq_false_iff_ne] at this
    exact this.2
  have hs : isShift (c :: r) = false := by
    have n60 : c ≠ 60 := by rintro rfl; exact h.stops.lt rfl
    have n62 : c ≠ 62 := by rintro rfl; exact h.stops.gt rfl
    simp [isShift, n60, n62]
  unfold oneL
  dsimp only
  rw [if_neg (by rw [h.stops.letter]; decide), if_neg (by rw [h.stops.digit]; decide), if_neg h46, if_neg h.quote, if_neg (by rw [hs]; decide), if_pos h.mem]
def sgT (c : UInt8) (i : Nat) : Tok := ⟨3, strL [c], 0, i⟩
theorem lexL_sign {c : UInt8} {r : List UInt8} (h : IsSign c) (i : Nat) : lexL (c :: r) i = lexApp [sgT c i] (lexL r (i + 1)) := by
  rw [lexL_ok i h.ne.1 h.ne.2 (oneL_sign h)]
  rfl
theorem sign40 : IsSign 40 := ⟨⟨by decide, by decide, by decide⟩, by decide, by decide⟩
theorem sign41 : IsSign 41 := ⟨⟨by decide, by decide, by decide⟩, by decide, by decide⟩
theorem sign126 : IsSign 126 := ⟨⟨by decide, by decide, by decide⟩, by decide, by decide⟩
/-- The same words, wherever they begin. -/
def Like (us ts : List Tok) : Prop := us.length = ts.length ∧ ∀ (q : Nat) (t : Tok), ts[q]? = some t → ∃ u : Tok, us[q]? = some u ∧ u.like t
theorem lex_par {a : List UInt8} {ta : List Tok} (ha : lexL a 0 = .ok ta) (h59 : ∀ b ∈ a, (b.toNat : Int) ≠ 59) (r : List UInt8) (i : Nat) :
    ∃ us j, Like us ta ∧ lexL (40 :: (a ++ 41 :: r)) i = lexApp (sgT 40 i :: (us ++ [sgT 41 j])) (lexL r (j + 1)) := by
  obtain ⟨us, h1, h2, h3⟩ := lexL_on _ a 0 (i + 1) ta (Nat.le_refl _) ha
  refine ⟨us, i + 1 + a.length, ⟨h2, h3⟩, ?_⟩
  rw [lexL_sign sign40, lexL_cat sign41.stops _ a (i + 1) us (Nat.le_refl _) h1 h59, lexL_sign sign41, ← lexApp_app, ← lexApp_app]
  rfl
theorem signAt_mid (A : List Tok) (c : UInt8) (i : Nat) (R : List Tok) (S : List ByteArray) : signAt (A ++ sgT c i :: R) A.length S = if inS S (strL [c]) = true then some (strL [c]) else none := by
  unfold signAt
  rw [List.getElem?_append_right (Nat.le_refl _)]
  simp [sgT]
theorem shut_none : ∀ k, inS (lvS k) (strL [41]) = false
  | 0 => by decide
  | 1 => by decide
  | 2 => by decide
  | 3 => by decide
  | 4 => by decide
  | 5 => by decide
  | (n + 6) => rfl
theorem emb_of {A us ts R : List Tok} {j : Nat} (h : Like us ts) : Emb ts (A ++ us ++ sgT 41 j :: R) A.length := by
  constructor
  · intro i t ht
    obtain ⟨u, hu, hl⟩ := h.2 i t ht
    refine ⟨u, ?_, hl⟩
    have hi := (List.getElem?_eq_some_iff.1 hu).1
    rw [List.append_assoc, List.getElem?_append_right (by omega), Nat.add_sub_cancel_left, List.getElem?_append_left hi, hu]
  · intro k
    have := signAt_mid (A ++ us) 41 j R (lvS k)
    rw [shut_none k] at this
    rw [List.length_append, h.1] at this
    simpa using this
/-- A sign of one level, and of no other one. -/
structure SignOf (c : UInt8) (k : Nat) : Prop where
  sign : IsSign c
  lt : k < 6
  yes : inS (lvS k) (strL [c]) = true
  no : ∀ j, j ≠ k → inS (lvS j) (strL [c]) = false
theorem lv_beyond (j : Nat) (h : 6 ≤ j) (s : ByteArray) : inS (lvS j) s = false := by
  match j, h with
  | (n + 6), _ => rfl
theorem signOf {c : UInt8} {k : Nat} (h : IsSign c) (hk : k < 6) (hy : inS (lvS k) (strL [c]) = true) (hn : ∀ j : Fin 6, j.val ≠ k → inS (lvS j.val) (strL [c]) = false) : SignOf c k :=
  ⟨h, hk, hy, fun j hj => by
    by_cases h6 : j < 6
    · exact hn ⟨j, h6⟩ hj
    · exact lv_beyond j (by omega) _⟩
theorem sign43 : SignOf 43 4 := signOf ⟨⟨by decide, by decide, by decide⟩, by decide, by decide⟩ (by decide) (by decide) (by decide)
theorem sign45 : SignOf 45 4 := signOf ⟨⟨by decide, by decide, by decide⟩, by decide, by decide⟩ (by decide) (by decide) (by decide)
theorem sign42 : SignOf 42 5 := signOf ⟨⟨by decide, by decide, by decide⟩, by decide, by decide⟩ (by decide) (by decide) (by decide)
theorem sign124 : SignOf 124 0 := signOf ⟨⟨by decide, by decide, by decide⟩, by decide, by decide⟩ (by decide) (by decide) (by decide)
theorem sign94 : SignOf 94 1 := signOf ⟨⟨by decide, by decide, by decide⟩, by decide, by decide⟩ (by decide) (by decide) (by decide)
theorem sign38 : SignOf 38 2 := signOf ⟨⟨by decide, by decide, by decide⟩, by decide, by decide⟩ (by decide) (by decide) (by decide)
/-- The text of two in brackets. -/
def parT (a b : List UInt8) (c : UInt8) : List UInt8 := 40 :: (a ++ 41 :: c :: 40 :: (b ++ 41 :: []))
theorem parT_59 {a b : List UInt8} {c : UInt8} (ha : ∀ x ∈ a, (x.toNat : Int) ≠ 59) (hb : ∀ x ∈ b, (x.toNat : Int) ≠ 59) (hc : (c.toNat : Int) ≠ 59) : ∀ x ∈ parT a b c, (x.toNat : Int) ≠ 59 := by
  intro x hx
  simp only [parT, List.mem_cons, List.mem_append, List.not_mem_nil, or_false] at hx
  rcases hx with rfl | hx | rfl | rfl | rfl | hx | rfl
  · decide
  · exact ha x hx
  · decide
  · exact hc
  · decide
  · exact hb x hx
  · decide
/-- One in brackets, as it stands. -/
theorem Ev.brack {L : List Tok} {o d p : Nat} {x : Int} (h1 : signAt L o unS = some sOpen) (hd : d ≤ 16) (h : Ev L [] (.lev 0 (o + 1)) (d + 1) (.ok x p)) (h2 : signAt L p [sShut] = some sShut) : Ev L [] (.lev 6 o) d (.ok x (p + 1)) := .top (.par h1 hd h h2)
/-- What lies too deep alone or not does so with any sign. -/
theorem parts_all {a b : List UInt8} {x y : Int} (ha : Whole a x) (hb : Whole b y) :
    (∀ c k z, SignOf c k → joinE (strL [c]) x y = some z → Whole (parT a b c) z) ∨ (∀ c k, SignOf c k → ∀ v, ¬ Whole (parT a b c) v) := by
  obtain ⟨ta, a1, a2, a3⟩ := ha
  obtain ⟨tb, b1, b2, b3⟩ := hb
  obtain ⟨_, _, hA⟩ := a3.move rfl (Nat.zero_le _) 1
  obtain ⟨_, _, hB⟩ := b3.move rfl (Nat.zero_le _) 1
  -- the words of all
  have words : ∀ c, IsSign c → ∃ ua ub j1 j2 j3 j4, Like ua ta ∧ Like ub tb ∧ lexL (parT a b c) 0 = .ok ((sgT 40 0 :: (ua ++ [sgT 41 j1])) ++ sgT c j2 :: (sgT 40 j3 :: (ub ++ [sgT 41 j4]))) := by
    intro c hc
    obtain ⟨ua, j1, h1, h2⟩ := lex_par a1 a2 (c :: 40 :: (b ++ 41 :: [])) 0
    obtain ⟨ub, j4, h3, h4⟩ := lex_par b1 b2 [] (j1 + 1 + 1)
    refine ⟨ua, ub, j1, j1 + 1, j1 + 1 + 1, j4, h1, h3, ?_⟩
    unfold parT
    rw [h2, lexL_sign hc, h4, lexL_nil]
    simp [lexApp]
  have core : ∀ (ua ub : List Tok) (c : UInt8) (j1 j2 j3 j4 k : Nat), SignOf c k → Like ua ta → Like ub tb →
      let L := (sgT 40 0 :: (ua ++ [sgT 41 j1])) ++ sgT c j2 :: (sgT 40 j3 :: (ub ++ [sgT 41 j4]))
      L.length = ta.length + tb.length + 5 ∧ Emb ta L 1 ∧ Emb tb L (ta.length + 4) ∧ signAt L 0 unS = some sOpen ∧ signAt L (ta.length + 1) [sShut] = some sShut ∧ signAt L (ta.length + 2) (lvS k) = some (strL [c]) ∧
      (∀ j, j ≠ k → signAt L (ta.length + 2) (lvS j) = none) ∧ signAt L (ta.length + 3) unS = some sOpen ∧ signAt L (ta.length + 4 + tb.length) [sShut] = some sShut ∧ ∀ j, signAt L (ta.length + 4 + tb.length + 1) (lvS j) = none := by
    intro ua ub c j1 j2 j3 j4 k hc hua hub L
    have la := hua.1
    have lb := hub.1
    have e1 : L = [sgT 40 0] ++ ua ++ sgT 41 j1 :: (sgT c j2 :: (sgT 40 j3 :: (ub ++ [sgT 41 j4]))) := by simp [L]
    have e2 : L = (sgT 40 0 :: (ua ++ [sgT 41 j1, sgT c j2, sgT 40 j3])) ++ ub ++ sgT 41 j4 :: [] := by simp [L]
    have e3 : L = (sgT 40 0 :: (ua ++ [sgT 41 j1])) ++ sgT c j2 :: (sgT 40 j3 :: (ub ++ [sgT 41 j4])) := rfl
    have e4 : L = (sgT 40 0 :: (ua ++ [sgT 41 j1, sgT c j2])) ++ sgT 40 j3 :: (ub ++ [sgT 41 j4]) := by simp [L]
    have s3 : ∀ S, signAt L (ta.length + 2) S = if inS S (strL [c]) = true then some (strL [c]) else none := fun S => by
      have := signAt_mid (sgT 40 0 :: (ua ++ [sgT 41 j1])) c j2 (sgT 40 j3 :: (ub ++ [sgT 41 j4])) S
      rw [← e3] at this
      simpa [la] using this
    refine ⟨by simp [L, la, lb]; omega, ?_, ?_, ?_, ?_, ?_, ?_, ?_, ?_, ?_⟩
    · rw [e1]; exact emb_of hua
    · have := emb_of (A := sgT 40 0 :: (ua ++ [sgT 41 j1, sgT c j2, sgT 40 j3])) (R := []) (j := j4) hub
      rw [← e2] at this
      simpa [la] using this
    · have := signAt_mid [] 40 0 ((ua ++ [sgT 41 j1]) ++ sgT c j2 :: (sgT 40 j3 :: (ub ++ [sgT 41 j4]))) unS
      exact this
    · have := signAt_mid ([sgT 40 0] ++ ua) 41 j1 (sgT c j2 :: (sgT 40 j3 :: (ub ++ [sgT 41 j4]))) [sShut]
      rw [← e1] at this
      simp only [List.length_append, List.length_cons, List.length_nil, la] at this
      rw [show ta.length + 1 = 0 + 1 + ta.length by omega, this]
      decide
    · rw [s3, if_pos hc.yes]
    · intro j hj; rw [s3, if_neg (by rw [hc.no j hj]; decide)]
    · have := signAt_mid (sgT 40 0 :: (ua ++ [sgT 41 j1, sgT c j2])) 40 j3 (ub ++ [sgT 41 j4]) unS
      rw [← e4] at this
      simp only [List.length_append, List.length_cons, List.length_nil, la] at this
      rw [show ta.length + 3 = ta.length + (0 + 1 + 1) + 1 by omega, this]
      decide
    · have := signAt_mid ((sgT 40 0 :: (ua ++ [sgT 41 j1, sgT c j2, sgT 40 j3])) ++ ub) 41 j4 [] [sShut]
      rw [← e2] at this
      simp only [List.length_append, List.length_cons, List.length_nil, la, lb] at this
      rw [show ta.length + 4 + tb.length = ta.length + (0 + 1 + 1 + 1) + 1 + tb.length by omega, this]
      decide
    · intro j
      unfold signAt
      rw [List.getElem?_eq_none (by simp [L, la, lb]; omega)]
  rcases hA with hA | hA
  · rcases hB with hB | hB
    · left
      intro c k z hc hj
      obtain ⟨ua, ub, j1, j2, j3, j4, hua, hub, hl⟩ := words c hc.sign
      obtain ⟨len, ea, eb, g1, g2, g3, g4, g5, g6, g7⟩ := core ua ub c j1 j2 j3 j4 k hc hua hub
      refine ⟨_, hl, parT_59 a2 b2 hc.sign.ne.1, ?_⟩
      rw [len]
      have va := Ev.brack g1 (by decide) (hA _ 1 ea) (by rw [Nat.add_comm]; exact g2)
      have vb := Ev.brack g5 (by decide) (hB _ _ eb) g6
      have va' := Ev.up (k + 1) (6 - (k + 1)) (by have := hc.lt; omega) (by rw [show k + 1 + (6 - (k + 1)) = 6 by have := hc.lt; omega]; exact va) (fun i h1 h2 => by
        rw [show 1 + ta.length + 1 = ta.length + 2 by omega]; exact g4 i (by omega))
      have vb' := Ev.up (k + 1) (6 - (k + 1)) (by have := hc.lt; omega) (by rw [show k + 1 + (6 - (k + 1)) = 6 by have := hc.lt; omega]; exact vb) (fun i h1 h2 => g7 i)
      rw [show 1 + ta.length + 1 = ta.length + 2 by omega] at va'
      have v := Ev.bin hc.lt va' g3 vb' (g7 k) hj
      have := Ev.up 0 k (by have := hc.lt; omega) (by rw [Nat.zero_add]; exact v) (fun i h1 h2 => g7 i)
      rw [show ta.length + 4 + tb.length + 1 = ta.length + tb.length + 5 by omega] at this
      exact this
    · right
      intro c k hc v ⟨ts, hl', _, hv⟩
      obtain ⟨ua, ub, j1, j2, j3, j4, hua, hub, hl⟩ := words c hc.sign
      obtain ⟨len, ea, eb, g1, g2, g3, g4, g5, g6, g7⟩ := core ua ub c j1 j2 j3 j4 k hc hua hub
      rw [hl] at hl'
      cases hl'
      have va := Ev.brack g1 (by decide) (hA _ 1 ea) (by rw [Nat.add_comm]; exact g2)
      have va' := Ev.up (k + 1) (6 - (k + 1)) (by have := hc.lt; omega) (by rw [show k + 1 + (6 - (k + 1)) = 6 by have := hc.lt; omega]; exact va) (fun i h1 h2 => by
        rw [show 1 + ta.length + 1 = ta.length + 2 by omega]; exact g4 i (by omega))
      rw [show 1 + ta.length + 1 = ta.length + 2 by omega] at va'
      obtain ⟨q, e, hbad⟩ := hB _ _ eb
      have vb := Ev.upBad (k + 1) (6 - (k + 1)) (by have := hc.lt; omega) (by rw [show k + 1 + (6 - (k + 1)) = 6 by have := hc.lt; omega]; exact .top (.parBad g5 (by decide) hbad))
      have w := Ev.binBad hc.lt va' g3 vb
      have w0 := Ev.upBad 0 k (by have := hc.lt; omega) (by rw [Nat.zero_add]; exact w)
      have := Ev.same w0 hv
      cases this
  · right
    intro c k hc v ⟨ts, hl', _, hv⟩
    obtain ⟨ua, ub, j1, j2, j3, j4, hua, hub, hl⟩ := words c hc.sign
    obtain ⟨len, ea, eb, g1, g2, g3, g4, g5, g6, g7⟩ := core ua ub c j1 j2 j3 j4 k hc hua hub
    rw [hl] at hl'
    cases hl'
    obtain ⟨q, e, hbad⟩ := hA _ 1 ea
    have w0 := Ev.upBad 0 6 (by decide) (.top (.parBad g1 (by decide) hbad))
    have := Ev.same w0 hv
    cases this
/-- The text of one in brackets, with a sign ahead. -/
def invT (a : List UInt8) : List UInt8 := 126 :: 40 :: (a ++ 41 :: [])
theorem inv_all {a : List UInt8} {x z : Int} (ha : Whole a x) (hz : boundE (0 - x - 1) = some z) : Whole (invT a) z ∨ ∀ v, ¬ Whole (invT a) v := by
  obtain ⟨ta, a1, a2, a3⟩ := ha
  obtain ⟨_, _, hA⟩ := a3.move rfl (Nat.zero_le _) 2
  obtain ⟨ua, j1, hua, h2⟩ := lex_par a1 a2 [] 1
  have hl : lexL (invT a) 0 = .ok ([sgT 126 0, sgT 40 1] ++ ua ++ sgT 41 j1 :: []) := by
    unfold invT
    rw [lexL_sign sign126, h2, lexL_nil]
    simp [lexApp]
  have la := hua.1
  have e : Emb ta ([sgT 126 0, sgT 40 1] ++ ua ++ sgT 41 j1 :: []) 2 := emb_of hua
  have g1 : signAt ([sgT 126 0, sgT 40 1] ++ ua ++ sgT 41 j1 :: []) 0 unS = some sNot := signAt_mid [] 126 0 ([sgT 40 1] ++ ua ++ sgT 41 j1 :: []) unS
  have g2 : signAt ([sgT 126 0, sgT 40 1] ++ ua ++ sgT 41 j1 :: []) 1 unS = some sOpen := signAt_mid [sgT 126 0] 40 1 (ua ++ sgT 41 j1 :: []) unS
  have g3 : signAt ([sgT 126 0, sgT 40 1] ++ ua ++ sgT 41 j1 :: []) (2 + ta.length) [sShut] = some sShut := by
    have := signAt_mid ([sgT 126 0, sgT 40 1] ++ ua) 41 j1 [] [sShut]
    simp only [List.length_append, List.length_cons, List.length_nil, la] at this
    rw [show 2 + ta.length = 0 + 1 + 1 + ta.length by omega, this]
    decide
  have len : ([sgT 126 0, sgT 40 1] ++ ua ++ sgT 41 j1 :: []).length = 2 + ta.length + 1 := by simp [la]; omega
  rcases hA with hA | hA
  · left
    refine ⟨_, hl, ?_, ?_⟩
    · intro b hb
      simp only [invT, List.mem_cons, List.mem_append, List.not_mem_nil, or_false] at hb
      rcases hb with rfl | rfl | hb | rfl
      · decide
      · decide
      · exact a2 b hb
      · decide
    · rw [len]
      have v : Ev ([sgT 126 0, sgT 40 1] ++ ua ++ sgT 41 j1 :: []) [] (.lev 6 0) 0 (.ok z (2 + ta.length + 1)) :=
        .top (.neg g1 (by decide) (by decide) (.par g2 (by decide) (hA _ 2 e) g3) (by unfold preE; rw [if_neg (by decide)]; exact hz))
      refine Ev.up 0 6 (by decide) v (fun i _ _ => ?_)
      unfold signAt
      rw [List.getElem?_eq_none (by rw [len]; omega)]
  · right
    intro v ⟨ts, hl', _, hv⟩
    rw [hl] at hl'
    cases hl'
    obtain ⟨q, e', hbad⟩ := hA _ 2 e
    have w0 := Ev.upBad 0 6 (by decide) (.top (.negBad g1 (by decide) (by decide) (.parBad g2 (by decide) hbad)))
    have := Ev.same w0 hv
    cases this
end Go.Proofs.YtockkidbncpdlaaDoor
