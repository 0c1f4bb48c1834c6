/- Plain: what line makes of what has been read is what P1701 says, line by line; bounds. -/
import Derived.Test.YteddflbidafebaaGreatDoorManPLn
import Derived.Test.YteddflbidafebaaGreatDoorManPIt
namespace Go.Proofs.YteddflbidafebaaGreatDoor
set_option linter.unusedVariables false
set_option linter.unusedSimpArgs false
open Go.RowKit
def lC : List UInt8 := [99, 111, 109, 112]
def lI : List UInt8 := [105, 109, 112, 111, 114, 116]
def lS : List UInt8 := [115, 104, 97, 114, 101]
def lG : List UInt8 := [103, 114, 97, 110, 116]
def lT : List UInt8 := [115, 116, 97, 114, 116]
theorem bs_inj {a b : List UInt8} (h : bsL a = bsL b) : a = b := by
  have := congrArg (fun x : ByteArray => x.data.toList) h
  exact this
theorem bs_iff (k m : List UInt8) : bsL k = bsL m ↔ k = m := ⟨bs_inj, fun h => by rw [h]⟩
theorem lw (kd : List UInt8) (n : Nat) {l : List UInt8} {k : List UInt8} {ws : List (List UInt8)} (h : splitB 32 l = k :: ws) : lineWords kd n l = if k = kd ∧ ws.length = n then some ws else none := by
  unfold lineWords; rw [h]
/-- From the kind that stands on. -/
def outK (ph : Nat) (fC fI fS fG fT : OptW) (m : ManV) : Except Int (ManV × Nat) := if ph ≤ 1 then outC fC fI fS fG fT m else if ph = 2 then outI fI fS fG fT m else if ph = 3 then outS fS fG fT m else if ph = 4 then outG fG fT m else .error 11
theorem out_line (l : List UInt8) (m : ManV) (ph : Nat) : outK ph (lineWords lC 2 l) (lineWords lI 3 l) (lineWords lS 2 l) (lineWords lG 3 l) (lineWords lT 2 l) m = mlineP (splitB 32 l) m ph := by
  obtain ⟨k, ws, e⟩ := splitB_some (c := 32) l
  rw [lw lC 2 e, lw lI 3 e, lw lS 2 e, lw lG 3 e, lw lT 2 e, e]
  have eC : ∀ k, bsL k = compT ↔ k = lC := fun k => bs_iff k lC
  have eI : ∀ k, bsL k = importT ↔ k = lI := fun k => bs_iff k lI
  have eS : ∀ k, bsL k = shareT ↔ k = lS := fun k => bs_iff k lS
  have eG : ∀ k, bsL k = grantT ↔ k = lG := fun k => bs_iff k lG
  have eT : ∀ k, bsL k = mstartT ↔ k = lT := fun k => bs_iff k lT
  have ph5 : ph ≤ 1 ∨ ph = 2 ∨ ph = 3 ∨ ph = 4 ∨ 5 ≤ ph := by omega
  match ws with
  | [] =>
    simp only [List.length_nil, Nat.reduceEqDiff, and_false, if_false, mlineP, outK, outC, outI, outS, outG, outT, reduceCtorEq]
    split <;> (try rfl) <;> split <;> (try rfl) <;> split <;> (try rfl) <;> split <;> rfl
  | [a] =>
    simp only [List.length_cons, List.length_nil, Nat.reduceAdd, Nat.reduceEqDiff, and_false, if_false, mlineP, outK, outC, outI, outS, outG, outT, reduceCtorEq]
    split <;> (try rfl) <;> split <;> (try rfl) <;> split <;> (try rfl) <;> split <;> rfl
  | [a, b] =>
    simp only [List.length_cons, List.length_nil, Nat.reduceAdd, Nat.reduceEqDiff, and_false, and_true, if_false, mlineP, eC, eI, eS, eG, eT]
    by_cases h1 : k = lC
    · subst h1
      rw [if_pos rfl, if_neg (by decide), if_neg (by decide)]
      rcases ph5 with h | h | h | h | h
      · rw [if_pos ⟨rfl, h⟩]; unfold outK; rw [if_pos h]; rfl
      · subst h; rfl
      · subst h; rfl
      · subst h; rfl
      · rw [if_neg (by omega), if_neg (by rintro ⟨x, _⟩; exact absurd x (by decide)), if_neg (by rintro ⟨x, _⟩; exact absurd x (by decide))]
        unfold outK; rw [if_neg (by omega), if_neg (by omega), if_neg (by omega), if_neg (by omega)]
    by_cases h2 : k = lS
    · subst h2
      rw [if_neg (by decide), if_pos rfl, if_neg (by decide)]
      rcases ph5 with h | h | h | h | h
      · rw [if_neg (by rintro ⟨x, _⟩; exact absurd x (by decide)), if_pos ⟨rfl, by omega⟩]; unfold outK; rw [if_pos h]; rfl
      · subst h; rfl
      · subst h; rfl
      · subst h; rfl
      · rw [if_neg (by rintro ⟨x, _⟩; exact absurd x (by decide)), if_neg (by omega), if_neg (by rintro ⟨x, _⟩; exact absurd x (by decide))]
        unfold outK; rw [if_neg (by omega), if_neg (by omega), if_neg (by omega), if_neg (by omega)]
    by_cases h3 : k = lT
    · subst h3
      rw [if_neg (by decide), if_neg (by decide), if_pos rfl]
      rcases ph5 with h | h | h | h | h
      · rw [if_neg (by rintro ⟨x, _⟩; exact absurd x (by decide)), if_neg (by rintro ⟨x, _⟩; exact absurd x (by decide)), if_pos ⟨rfl, by omega⟩]; unfold outK; rw [if_pos h]; rfl
      · subst h; rfl
      · subst h; rfl
      · subst h; rfl
      · rw [if_neg (by rintro ⟨x, _⟩; exact absurd x (by decide)), if_neg (by rintro ⟨x, _⟩; exact absurd x (by decide)), if_neg (by omega)]
        unfold outK; rw [if_neg (by omega), if_neg (by omega), if_neg (by omega), if_neg (by omega)]
    rw [if_neg h1, if_neg h2, if_neg h3, if_neg (fun x => h1 x.1), if_neg (fun x => h2 x.1), if_neg (fun x => h3 x.1)]
    unfold outK outC outI outS outG outT
    split <;> (try rfl) <;> split <;> (try rfl) <;> split <;> (try rfl) <;> split <;> rfl
  | [a, b, c] =>
    simp only [List.length_cons, List.length_nil, Nat.reduceAdd, Nat.reduceEqDiff, and_false, and_true, if_false, mlineP, eC, eI, eS, eG, eT]
    by_cases h1 : k = lI
    · subst h1
      rw [if_pos rfl, if_neg (by decide)]
      rcases ph5 with h | h | h | h | h
      · rw [if_pos ⟨rfl, by omega⟩]; unfold outK; rw [if_pos h]; rfl
      · subst h; rfl
      · subst h; rfl
      · subst h; rfl
      · rw [if_neg (by omega), if_neg (by rintro ⟨x, _⟩; exact absurd x (by decide))]
        unfold outK; rw [if_neg (by omega), if_neg (by omega), if_neg (by omega), if_neg (by omega)]
    by_cases h2 : k = lG
    · subst h2
      rw [if_neg (by decide), if_pos rfl]
      rcases ph5 with h | h | h | h | h
      · rw [if_neg (by rintro ⟨x, _⟩; exact absurd x (by decide)), if_pos ⟨rfl, by omega⟩]; unfold outK; rw [if_pos h]; unfold outC outI outS outG; dsimp only; cases permL c <;> rfl
      · subst h; unfold outK outI outS outG; dsimp only; cases permL c <;> rfl
      · subst h; unfold outK outS outG; dsimp only; cases permL c <;> rfl
      · subst h; unfold outK outG; dsimp only; cases permL c <;> rfl
      · rw [if_neg (by rintro ⟨x, _⟩; exact absurd x (by decide)), if_neg (by omega)]
        unfold outK; rw [if_neg (by omega), if_neg (by omega), if_neg (by omega), if_neg (by omega)]
    rw [if_neg h1, if_neg h2, if_neg (fun x => h1 x.1), if_neg (fun x => h2 x.1)]
    unfold outK outC outI outS outG outT
    split <;> (try rfl) <;> split <;> (try rfl) <;> split <;> (try rfl) <;> split <;> rfl
  | a :: b :: c :: d :: r =>
    have e2 : ¬ (a :: b :: c :: d :: r).length = 2 := by simp
    have e3 : ¬ (a :: b :: c :: d :: r).length = 3 := by simp
    rw [if_neg (fun x => e2 x.2), if_neg (fun x => e3 x.2), if_neg (fun x => e2 x.2), if_neg (fun x => e3 x.2), if_neg (fun x => e2 x.2)]
    unfold outK outC outI outS outG outT mlineP
    dsimp only
    split <;> (try rfl) <;> split <;> (try rfl) <;> split <;> (try rfl) <;> split <;> rfl
theorem out_open (m : ManV) (ph : Nat) : outK ph none none none none none m = .error 11 := by
  unfold outK outC outI outS outG outT
  dsimp only
  split <;> (try rfl) <;> split <;> (try rfl) <;> split <;> (try rfl) <;> split <;> rfl
/-! ### Bounds -/
theorem split_total (c : UInt8) : ∀ l : List UInt8, ((splitB c l).map fun x => x.length + 1).sum = l.length + 1
  | [] => rfl
  | x :: r => by
    have ih := split_total c r
    unfold splitB
    by_cases h : x = c
    · rw [if_pos h, List.map_cons, List.sum_cons, ih]
      simp only [List.length_nil, List.length_cons]; omega
    · rw [if_neg h]
      obtain ⟨p, q, e⟩ := splitB_some (c := c) r
      rw [e] at ih ⊢
      simp only [List.map_cons, List.sum_cons, List.length_cons] at ih ⊢
      omega
theorem mem_le_sum : ∀ {l : List Nat} {x : Nat}, x ∈ l → x ≤ l.sum
  | [], _, h => by simp at h
  | y :: l, x, h => by
    rw [List.sum_cons]
    rcases List.mem_cons.1 h with rfl | h
    · omega
    · have := mem_le_sum h; omega
theorem split_mem_le {c : UInt8} {l x : List UInt8} (h : x ∈ splitB c l) : x.length ≤ l.length := by
  have ht := split_total c l
  have : x.length + 1 ≤ ((splitB c l).map fun x => x.length + 1).sum := mem_le_sum (List.mem_map_of_mem (f := fun x : List UInt8 => x.length + 1) h)
  omega
/-- Of no more than so many lines. -/
structure MayN (k : Nat) (m : ManV) : Prop where
  comps : m.comps.length ≤ k
  imps : m.imps.length ≤ k
  shrs : m.shrs.length ≤ k
  grns : m.grns.length ≤ k
  compN : ∀ c ∈ m.comps, c.name.size ≤ 1000 ∧ 0 ≤ c.stack ∧ c.stack < 4294967296
  impN : ∀ x ∈ m.imps, x.comp.size ≤ 1000 ∧ x.from_.size ≤ 1000 ∧ x.name.size ≤ 1000
  shrN : ∀ c ∈ m.shrs, c.name.size ≤ 1000 ∧ 0 ≤ c.stack ∧ c.stack < 4294967296
  grnN : ∀ x ∈ m.grns, x.comp.size ≤ 1000 ∧ x.share.size ≤ 1000 ∧ 0 ≤ x.perm ∧ x.perm < 65536
  startN : m.start.comp.size ≤ 1000 ∧ m.start.from_.size ≤ 1000 ∧ m.start.name.size ≤ 1000
theorem MayN.may {k : Nat} {m : ManV} (h : MayN k m) (hk : k ≤ 100) : ManMay m := ⟨Nat.le_trans h.comps hk, Nat.le_trans h.imps hk, Nat.le_trans h.shrs hk, Nat.le_trans h.grns hk, h.compN, h.impN, h.shrN, h.grnN, h.startN⟩
theorem MayN.big {k : Nat} {m : ManV} (h : MayN k m) (hk : k ≤ 1000) : ManBig m := ⟨by have := h.comps; omega, by have := h.imps; omega, by have := h.shrs; omega, by have := h.grns; omega⟩
theorem noMan_may : MayN 0 noMan := by
  refine ⟨by decide, by decide, by decide, by decide, ?_, ?_, ?_, ?_, by decide⟩ <;> (intro c hc; simp [noMan] at hc)
theorem numD_lt {l : List UInt8} {n : Nat} (h : numD l = .ok n) : n < 4294967296 ∧ 1 ≤ l.length := by
  unfold numD at h
  split at h
  · cases h
  · rename_i h1
    split at h
    · cases h
    · rename_i h2
      cases h
      refine ⟨by omega, ?_⟩
      cases l with
      | nil => exact absurd (.inl rfl) h1
      | cons a r => simp
theorem permL_lt {l : List UInt8} {p : Int} (h : permL l = some p) : 0 ≤ p ∧ p < 65536 := by
  unfold permL at h
  split at h
  · cases h; decide
  · split at h
    · cases h; decide
    · split at h
      · cases h; decide
      · cases h
/-- A line that is one has seven bytes at the least, and adds one thing at the most. -/
theorem line_may {l : List UInt8} {m m' : ManV} {ph ph' k : Nat} (hl : l.length ≤ 1000) (h : mlineP (splitB 32 l) m ph = .ok (m', ph')) (hm : MayN k m) : 7 ≤ l.length ∧ MayN (k + 1) m' ∧ ph' ≤ 5 := by
  have ht := split_total 32 l
  have hx : ∀ x ∈ splitB 32 l, (bsL x).size ≤ 1000 := fun x hx => by rw [bs_size]; have := split_mem_le hx; omega
  have up : MayN (k + 1) m := ⟨by have := hm.comps; omega, by have := hm.imps; omega, by have := hm.shrs; omega, by have := hm.grns; omega, hm.compN, hm.impN, hm.shrN, hm.grnN, hm.startN⟩
  have eC : ∀ k, bsL k = compT ↔ k = lC := fun k => bs_iff k lC
  have eI : ∀ k, bsL k = importT ↔ k = lI := fun k => bs_iff k lI
  have eS : ∀ k, bsL k = shareT ↔ k = lS := fun k => bs_iff k lS
  have eG : ∀ k, bsL k = grantT ↔ k = lG := fun k => bs_iff k lG
  have eT : ∀ k, bsL k = mstartT ↔ k = lT := fun k => bs_iff k lT
  generalize splitB 32 l = w at h ht hx
  unfold mlineP at h
  match w, h with
  | [kd, a, b], h =>
    simp only [eC, eS, eT] at h
    simp only [List.map_cons, List.map_nil, List.sum_cons, List.sum_nil] at ht
    by_cases h1 : kd = lC ∧ ph ≤ 1
    · rw [if_pos h1] at h
      cases hn : numD b with
      | error e => rw [hn] at h; cases h
      | ok n =>
        rw [hn] at h
        obtain ⟨n1, n2⟩ := numD_lt hn
        cases h
        rw [h1.1] at ht
        refine ⟨by have : lC.length = 4 := rfl; omega, ⟨by simp only [List.length_append, List.length_singleton]; have := hm.comps; omega, up.imps, up.shrs, up.grns, ?_, up.impN, up.shrN, up.grnN, up.startN⟩, by omega⟩
        intro c hc
        rcases List.mem_append.1 hc with hc | hc
        · exact up.compN c hc
        · obtain rfl := List.mem_singleton.1 hc
          exact ⟨hx a (by simp), by simp, by simp; omega⟩
    · rw [if_neg h1] at h
      by_cases h2 : kd = lS ∧ ph ≤ 3
      · rw [if_pos h2] at h
        cases hn : numD b with
        | error e => rw [hn] at h; cases h
        | ok n =>
          rw [hn] at h
          obtain ⟨n1, n2⟩ := numD_lt hn
          cases h
          rw [h2.1] at ht
          refine ⟨by have : lS.length = 5 := rfl; omega, ⟨up.comps, up.imps, by simp only [List.length_append, List.length_singleton]; have := hm.shrs; omega, up.grns, up.compN, up.impN, ?_, up.grnN, up.startN⟩, by omega⟩
          intro c hc
          rcases List.mem_append.1 hc with hc | hc
          · exact up.shrN c hc
          · obtain rfl := List.mem_singleton.1 hc
            exact ⟨hx a (by simp), by simp, by simp; omega⟩
      · rw [if_neg h2] at h
        by_cases h3 : kd = lT ∧ ph ≤ 4
        · rw [if_pos h3] at h
          cases h
          rw [h3.1] at ht
          exact ⟨by have : lT.length = 5 := rfl; omega, ⟨up.comps, up.imps, up.shrs, up.grns, up.compN, up.impN, up.shrN, up.grnN, ⟨show (⟨#[]⟩ : ByteArray).size ≤ 1000 by decide, hx a (by simp), hx b (by simp)⟩⟩, by omega⟩
        · rw [if_neg h3] at h; cases h
  | [kd, a, b, c], h =>
    simp only [eI, eG] at h
    simp only [List.map_cons, List.map_nil, List.sum_cons, List.sum_nil] at ht
    by_cases h1 : kd = lI ∧ ph ≤ 2
    · rw [if_pos h1] at h
      cases h
      rw [h1.1] at ht
      refine ⟨by have : lI.length = 6 := rfl; omega, ⟨up.comps, by simp only [List.length_append, List.length_singleton]; have := hm.imps; omega, up.shrs, up.grns, up.compN, ?_, up.shrN, up.grnN, up.startN⟩, by omega⟩
      intro x hc
      rcases List.mem_append.1 hc with hc | hc
      · exact up.impN x hc
      · obtain rfl := List.mem_singleton.1 hc
        exact ⟨hx a (by simp), hx b (by simp), hx c (by simp)⟩
    · rw [if_neg h1] at h
      by_cases h2 : kd = lG ∧ ph ≤ 4
      · rw [if_pos h2] at h
        cases hp : permL c with
        | none => rw [hp] at h; cases h
        | some p =>
          rw [hp] at h
          cases h
          rw [h2.1] at ht
          refine ⟨by have : lG.length = 5 := rfl; omega, ⟨up.comps, up.imps, up.shrs, by simp only [List.length_append, List.length_singleton]; have := hm.grns; omega, up.compN, up.impN, up.shrN, ?_, up.startN⟩, by omega⟩
          intro x hc
          rcases List.mem_append.1 hc with hc | hc
          · exact up.grnN x hc
          · obtain rfl := List.mem_singleton.1 hc
            exact ⟨hx a (by simp), hx b (by simp), permL_lt hp⟩
      · rw [if_neg h2] at h; cases h
/-! ### Line by line -/
/-- What the next line of a text makes of what has been read. -/
def nextRes (rest : List UInt8) (m : ManV) (ph : Nat) : Except Int (ManV × Nat) := if Lib.indexByte rest 10 = -1 then .error 11 else mlineP (splitB 32 (rest.take (Lib.indexByte rest 10).toNat)) m ph
theorem next_step {rest : List UInt8} (h0 : rest ≠ []) (n : Nat) (m : ManV) (ph : Nat) : mlinesP (splitB 10 rest) n m ph = match nextRes rest m ph with
    | .error e => .error (mlineT, (n : Int), e)
    | .ok (m', ph') => mlinesP (splitB 10 (cutL rest).2) (n + 1) m' ph' := by
  unfold nextRes cutL
  by_cases hi : Lib.indexByte rest 10 = -1
  · rw [if_pos hi]
    have : splitB 10 rest = [rest] := by
      refine splitB_one rest ?_
      intro x hx e2
      obtain ⟨j, hj, hj2⟩ := List.mem_iff_getElem.1 hx
      exact Lib.indexByte_none hi j (by rw [List.getElem?_eq_getElem hj, hj2, e2])
    rw [this]
    show (if rest ≠ [] ∨ ph ≠ 5 then (.error (mlineT, (n : Int), 11) : Except WrV ManV) else .ok m) = _
    rw [if_pos (.inl h0)]
  · rw [if_neg hi, if_neg hi]
    obtain ⟨o, ho⟩ : ∃ o : Nat, Lib.indexByte rest 10 = o := ⟨(Lib.indexByte rest 10).toNat, by have := Lib.indexByte_ge rest 10; omega⟩
    rw [ho]
    obtain ⟨h1, h2⟩ := Lib.indexByte_some ho
    rw [split_at h1 h2]
    obtain ⟨p, q, e⟩ := splitB_some (c := 10) (rest.drop (o + 1))
    show mlinesP (rest.take o :: splitB 10 (rest.drop (o + 1))) n m ph = match mlineP (splitB 32 (rest.take o)) m ph with
      | .error e => (.error (mlineT, (n : Int), e) : Except WrV ManV)
      | .ok (m', ph') => mlinesP (splitB 10 (rest.drop (o + 1))) (n + 1) m' ph'
    rw [e]
    rfl
theorem next_none (n : Nat) (m : ManV) (ph : Nat) : mlinesP (splitB 10 []) n m ph = if ph ≠ 5 then .error (mlineT, (n : Int), 11) else .ok m := by
  show (if ([] : List UInt8) ≠ [] ∨ ph ≠ 5 then (.error (mlineT, (n : Int), 11) : Except WrV ManV) else .ok m) = _
  by_cases h : ph = 5
  · rw [if_neg (by simp [h]), if_neg (by simp [h])]
  · rw [if_pos (.inr h), if_pos h]
theorem mlineP_err {w : List (List UInt8)} {m : ManV} {ph : Nat} {e : Int} (h : mlineP w m ph = .error e) : e ≠ 0 := by
  unfold mlineP at h
  split at h
  · split at h
    · split at h
      · rename_i hn; cases h; exact numD_err hn
      · cases h
    · split at h
      · split at h
        · rename_i hn; cases h; exact numD_err hn
        · cases h
      · split at h
        · cases h
        · cases h; decide
  · split at h
    · cases h
    · split at h
      · split at h
        · cases h
        · cases h; decide
      · cases h; decide
  · cases h; decide
end Go.Proofs.YteddflbidafebaaGreatDoor
