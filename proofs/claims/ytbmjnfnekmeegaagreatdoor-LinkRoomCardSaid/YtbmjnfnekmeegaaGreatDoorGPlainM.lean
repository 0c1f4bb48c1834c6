/- ManTab, ManMath, LnkTab, LnkMath, LnkMay, LnkIs, LnkNum, LnkSrt: Manifests, plain: what P1701 says of any manifest, of any text. -/
import Derived.Test.YtbmjnfnekmeegaaGreatDoorGPlainO
import Derived.Test.YtbmjnfnekmeegaaGreatDoorGPlainI
import Derived.Lib.SlicesCompact
/- Manifests, plain: what P1701 says of any manifest, of any text. -/
namespace Go.Proofs.YtbmjnfnekmeegaaGreatDoor
set_option linter.unusedVariables false
set_option linter.unusedSimpArgs false
open Go.RowKit
structure CompV where
  name : ByteArray
  stack : Int
structure ImpV where
  comp : ByteArray
  from_ : ByteArray
  name : ByteArray
structure GrnV where
  comp : ByteArray
  share : ByteArray
  perm : Int
/-- A share is told as a comp is: a name, a size. -/
structure ManV where
  comps : List CompV
  imps : List ImpV
  shrs : List CompV
  grns : List GrnV
  start : ImpV
def bsL (l : List UInt8) : ByteArray := ⟨l.toArray⟩
def compsT : ByteArray := bsL [99, 111, 109, 112, 115]
def compT : ByteArray := bsL [99, 111, 109, 112]
def importsT : ByteArray := bsL [105, 109, 112, 111, 114, 116, 115]
def importT : ByteArray := bsL [105, 109, 112, 111, 114, 116]
def msharesT : ByteArray := bsL [115, 104, 97, 114, 101, 115]
def shareT : ByteArray := bsL [115, 104, 97, 114, 101]
def grantsT : ByteArray := bsL [103, 114, 97, 110, 116, 115]
def grantT : ByteArray := bsL [103, 114, 97, 110, 116]
def mstartT : ByteArray := bsL [115, 116, 97, 114, 116]
def mlineT : ByteArray := bsL [108, 105, 110, 101]
def hasC (l : List CompV) (n : ByteArray) : Bool := l.any fun c => decide (c.name = n)
/-- A name, whether it was ahead, a size. -/
def sizedE (n : ByteArray) (ahead : Bool) (z : Int) : Int :=
  if goodB n = false then 12 else if ahead = true then 13 else if z % 16 ≠ 0 then 5 else if z = 0 ∨ 4096 < z then 14 else 0
def sizedAt (l : List CompV) (i : Nat) : Int := match l[i]? with
  | none => 0
  | some c => sizedE c.name (hasC (l.take i) c.name) c.stack
def impE (m : ManV) (i : Nat) : Int := match m.imps[i]? with
  | none => 0
  | some x =>
    if (!hasC m.comps x.comp || !hasC m.comps x.from_ || !goodB x.name) = true then 12 else
    if x.from_ = x.comp then 17 else
    if ((m.imps.take i).any fun y => decide (y.comp = x.comp ∧ y.from_ = x.from_ ∧ y.name = x.name)) = true then 13 else 0
def grnE (m : ManV) (i : Nat) : Int := match m.grns[i]? with
  | none => 0
  | some x =>
    if (!hasC m.comps x.comp || !hasC m.shrs x.share) = true then 12 else
    if x.perm = 0 ∨ 3 < x.perm then 3 else
    if ((m.grns.take i).any fun y => decide (y.comp = x.comp ∧ y.share = x.share)) = true then 13 else 0
def manW (m : ManV) : WrV :=
  if m.comps.length = 0 then (compsT, 0, 16) else
  if m.comps.length > 8 then (compsT, m.comps.length, 15) else
  match firstE (sizedAt m.comps) m.comps.length 0 with
  | some (i, e) => (compT, i, e)
  | none =>
    if m.imps.length > 64 then (importsT, m.imps.length, 15) else
    match firstE (impE m) m.imps.length 0 with
    | some (i, e) => (importT, i, e)
    | none =>
      if m.shrs.length > 8 then (msharesT, m.shrs.length, 15) else
      match firstE (sizedAt m.shrs) m.shrs.length 0 with
      | some (i, e) => (shareT, i, e)
      | none =>
        if m.grns.length > 64 then (grantsT, m.grns.length, 15) else
        match firstE (grnE m) m.grns.length 0 with
        | some (i, e) => (grantT, i, e)
        | none =>
          if (!hasC m.comps m.start.from_ || !goodB m.start.name) = true then (mstartT, 0, 12) else
          if m.start.comp ≠ ⟨#[]⟩ then (mstartT, 0, 17) else okW
/-- Where a comp is; -1: nowhere. -/
def idxL (l : List CompV) (n : ByteArray) (i : Nat) : Int := match l with
  | [] => -1
  | c :: r => if c.name = n then i else idxL r n (i + 1)
/-! ### In words -/
/-- What stands between bytes of one kind. -/
def splitB (c : UInt8) : List UInt8 → List (List UInt8)
  | [] => [[]]
  | x :: r => if x = c then [] :: splitB c r else match splitB c r with
    | [] => [[x]]
    | p :: q => (x :: p) :: q
/-- A decimal of 32 bits, or what is wrong with it. -/
def numD (l : List UInt8) : Except Int Nat :=
  if l = [] ∨ (l.head? = some 48 ∧ 1 < l.length) ∨ (l.all fun c => lxDigit c.toNat) = false then .error 11 else
  if 4294967296 ≤ l.foldl (fun n c => 10 * n + (c.toNat - 48)) 0 then .error 14 else .ok (l.foldl (fun n c => 10 * n + (c.toNat - 48)) 0)
def permL (l : List UInt8) : Option Int := if l = [114] then some 1 else if l = [119] then some 2 else if l = [114, 119] then some 3 else none
/-- A line's words, into what has been read; how far it is then (0 nothing, 1 comps .. 5 start). A word of no bytes is a word: Check tells that it is no name (REPORT, STATEMENT: stage 17). -/
def mlineP (w : List (List UInt8)) (m : ManV) (ph : Nat) : Except Int (ManV × Nat) :=
  match w with
  | [k, a, b] =>
    if bsL k = compT ∧ ph ≤ 1 then
      match numD b with
      | .error e => .error e
      | .ok n => .ok ({ m with comps := m.comps ++ [⟨bsL a, n⟩] }, 1)
    else if bsL k = shareT ∧ ph ≤ 3 then
      match numD b with
      | .error e => .error e
      | .ok n => .ok ({ m with shrs := m.shrs ++ [⟨bsL a, n⟩] }, 3)
    else if bsL k = mstartT ∧ ph ≤ 4 then .ok ({ m with start := ⟨⟨#[]⟩, bsL a, bsL b⟩ }, 5)
    else .error 11
  | [k, a, b, c] =>
    if bsL k = importT ∧ ph ≤ 2 then .ok ({ m with imps := m.imps ++ [⟨bsL a, bsL b, bsL c⟩] }, 2)
    else if bsL k = grantT ∧ ph ≤ 4 then
      match permL c with
      | some p => .ok ({ m with grns := m.grns ++ [⟨bsL a, bsL b, p⟩] }, 4)
      | none => .error 11
    else .error 11
  | _ => .error 11
def noMan : ManV := ⟨[], [], [], [], ⟨⟨#[]⟩, ⟨#[]⟩, ⟨#[]⟩⟩⟩
/-- Line by line: what stands behind the last end is no line. -/
def mlinesP : List (List UInt8) → Nat → ManV → Nat → Except WrV ManV
  | [], n, _, _ => .error (mlineT, n, 11)
  | [l], n, m, ph => if l ≠ [] ∨ ph ≠ 5 then .error (mlineT, n, 11) else .ok m
  | l :: l2 :: r, n, m, ph => match mlineP (splitB 32 l) m ph with
    | .error e => .error (mlineT, n, e)
    | .ok (m', ph') => mlinesP (l2 :: r) (n + 1) m' ph'
def manL (s : List UInt8) : Except WrV ManV := match mlinesP (splitB 10 s) 0 noMan 0 with
  | .error x => .error x
  | .ok m => if (manW m).2.2 = 0 then .ok m else .error (manW m)
/-- What Parse says: of none the error is 0. -/
def manPW (s : ByteArray) : WrV := match manL s.data.toList with
  | .ok _ => okW
  | .error x => x
/-- The digits of a number of 32 bits. -/
def decF : Nat → Nat → List UInt8
  | 0, _ => []
  | f + 1, n => if n < 10 then [UInt8.ofNat (48 + n)] else decF f (n / 10) ++ [UInt8.ofNat (48 + n % 10)]
def digsL (n : Nat) : List UInt8 := decF 10 n
def permT (p : Int) : List UInt8 := if p = 1 then [114] else if p = 2 then [119] else [114, 119]
def manT (m : ManV) : List UInt8 :=
  (m.comps.flatMap fun c => compT.data.toList ++ 32 :: (c.name.data.toList ++ 32 :: (digsL c.stack.toNat ++ [10]))) ++
  ((m.imps.flatMap fun x => importT.data.toList ++ 32 :: (x.comp.data.toList ++ 32 :: (x.from_.data.toList ++ 32 :: (x.name.data.toList ++ [10])))) ++
  ((m.shrs.flatMap fun c => shareT.data.toList ++ 32 :: (c.name.data.toList ++ 32 :: (digsL c.stack.toNat ++ [10]))) ++
  ((m.grns.flatMap fun x => grantT.data.toList ++ 32 :: (x.comp.data.toList ++ 32 :: (x.share.data.toList ++ 32 :: (permT x.perm ++ [10])))) ++
  (mstartT.data.toList ++ 32 :: (m.start.from_.data.toList ++ 32 :: (m.start.name.data.toList ++ [10]))))))
end Go.Proofs.YtbmjnfnekmeegaaGreatDoor

/- Manifests, plain: the texts of ManMost, of known; what they are. -/
namespace Go.Proofs.YtbmjnfnekmeegaaGreatDoor
set_option linter.unusedVariables false
set_option linter.unusedSimpArgs false
open Go.RowKit
/-! ### Splitting -/
theorem splitB_cons {c : UInt8} : ∀ (p : List UInt8) (r : List UInt8), (∀ x ∈ p, x ≠ c) → splitB c (p ++ c :: r) = p :: splitB c r
  | [], r, _ => by simp [splitB]
  | x :: p, r, h => by
    have hx : x ≠ c := h x (by simp)
    have ih := splitB_cons p r (fun y hy => h y (by simp [hy]))
    simp only [List.cons_append, splitB, if_neg hx, ih]
theorem splitB_one {c : UInt8} : ∀ (p : List UInt8), (∀ x ∈ p, x ≠ c) → splitB c p = [p]
  | [], _ => rfl
  | x :: p, h => by
    have hx : x ≠ c := h x (by simp)
    have ih := splitB_one p (fun y hy => h y (by simp [hy]))
    simp only [splitB, if_neg hx, ih]
theorem splitB_some {c : UInt8} (s : List UInt8) : ∃ p q, splitB c s = p :: q := by
  cases s with
  | nil => exact ⟨_, _, rfl⟩
  | cons x r =>
    simp only [splitB]
    split
    · exact ⟨_, _, rfl⟩
    · split <;> exact ⟨_, _, rfl⟩
/-- One line more. -/
theorem mlines_step {p r : List UInt8} {n : Nat} {m m' : ManV} {ph ph' : Nat} (hp : ∀ x ∈ p, x ≠ 10) (h : mlineP (splitB 32 p) m ph = .ok (m', ph')) : mlinesP (splitB 10 (p ++ 10 :: r)) n m ph = mlinesP (splitB 10 r) (n + 1) m' ph' := by
  rw [splitB_cons p r hp]
  obtain ⟨a, q, e⟩ := splitB_some (c := 10) r
  rw [e]
  have e2 : mlinesP (p :: a :: q) n m ph = (match mlineP (splitB 32 p) m ph with
    | .error e => (.error (mlineT, (n : Int), e) : Except WrV ManV)
    | .ok (m', ph') => mlinesP (a :: q) (n + 1) m' ph') := rfl
  rw [e2, h]
/-! ### Decimals -/
def foldD (l : List UInt8) : Nat := l.foldl (fun n c => 10 * n + (c.toNat - 48)) 0
theorem foldD_snoc (l : List UInt8) (c : UInt8) : foldD (l ++ [c]) = 10 * foldD l + (c.toNat - 48) := by
  unfold foldD
  rw [List.foldl_append]
  rfl
theorem digit_val {d : Nat} (h : d < 10) : (UInt8.ofNat (48 + d)).toNat = 48 + d := by rw [UInt8.toNat_ofNat']; omega
/-- What the digits of a number are. -/
structure DigsOf (n : Nat) (l : List UInt8) : Prop where
  ne : l ≠ []
  val : foldD l = n
  dig : ∀ c ∈ l, 48 ≤ c.toNat ∧ c.toNat ≤ 57
  lead : l.head? = some 48 → l.length = 1
  pos : 0 < n → l.head? ≠ some 48
theorem DigsOf.last {n : Nat} (h : n < 10) : DigsOf n [UInt8.ofNat (48 + n)] := by
  refine ⟨by simp, ?_, ?_, fun _ => rfl, ?_⟩
  · unfold foldD; simp only [List.foldl_cons, List.foldl_nil, digit_val h]; omega
  · intro c hc
    simp only [List.mem_singleton] at hc
    subst hc
    rw [digit_val h]; omega
  · intro hp e
    simp only [List.head?_cons, Option.some.injEq] at e
    have := congrArg UInt8.toNat e
    rw [digit_val h] at this
    have e2 : (48 : UInt8).toNat = 48 := rfl
    omega
theorem DigsOf.step {n : Nat} (h : 10 ≤ n) {l : List UInt8} (hl : DigsOf (n / 10) l) : DigsOf n (l ++ [UInt8.ofNat (48 + n % 10)]) := by
  have hd : n % 10 < 10 := Nat.mod_lt _ (by decide)
  have hq : 0 < n / 10 := by omega
  have hh : ∀ x, (l ++ [x]).head? = l.head? := fun x => by
    cases l with
    | nil => exact absurd rfl hl.ne
    | cons a r => rfl
  refine ⟨by simp, ?_, ?_, ?_, ?_⟩
  · rw [foldD_snoc, hl.val, digit_val hd]; omega
  · intro c hc
    rcases List.mem_append.1 hc with hc | hc
    · exact hl.dig c hc
    · simp only [List.mem_singleton] at hc
      subst hc
      rw [digit_val hd]; omega
  · intro e
    rw [hh] at e
    exact absurd e (hl.pos hq)
  · intro _
    rw [hh]
    exact hl.pos hq
theorem DigsOf.num {n : Nat} {l : List UInt8} (h : DigsOf n l) (hn : n < 4294967296) : numD l = .ok n := by
  unfold numD
  have hv := h.val
  unfold foldD at hv
  rw [hv]
  have h1 : ¬ (l = [] ∨ (l.head? = some 48 ∧ 1 < l.length) ∨ (l.all fun c => lxDigit c.toNat) = false) := by
    rintro (e | ⟨e, e2⟩ | e)
    · exact h.ne e
    · have := h.lead e; omega
    · have : (l.all fun c => lxDigit c.toNat) = true := by
        rw [List.all_eq_true]
        intro c hc
        have := h.dig c hc
        simp only [lxDigit, Bool.and_eq_true, decide_eq_true_eq]
        omega
      rw [this] at e; cases e
  rw [if_neg h1, if_neg (by omega)]
theorem DigsOf.no {n : Nat} {l : List UInt8} (h : DigsOf n l) : (∀ x ∈ l, x ≠ 10) ∧ (∀ x ∈ l, x ≠ 32) ∧ l.isEmpty = false := by
  refine ⟨fun x hx e => ?_, fun x hx e => ?_, ?_⟩
  · have := (h.dig x hx).1
    subst e
    exact absurd this (by decide)
  · have := (h.dig x hx).1
    subst e
    exact absurd this (by decide)
  · cases l with
    | nil => exact absurd rfl h.ne
    | cons a r => rfl
theorem decF_digs : ∀ (f n : Nat), n < 10 ^ f → 0 < f → DigsOf n (decF f n)
  | 0, _, _, h => absurd h (by decide)
  | f + 1, n, h, _ => by
    unfold decF
    by_cases hn : n < 10
    · rw [if_pos hn]; exact DigsOf.last hn
    · rw [if_neg hn]
      have hf : 0 < f := by
        rcases Nat.eq_zero_or_pos f with rfl | hf
        · simp at h; omega
        · exact hf
      exact DigsOf.step (by omega) (decF_digs f (n / 10) (by rw [Nat.pow_succ] at h; omega) hf)
/-! ### The text of ManMost -/
def ltr (i : Nat) : UInt8 := UInt8.ofNat (97 + i)
def cmpN (i : Nat) : List UInt8 := [99, ltr i]
def shrN (i : Nat) : List UInt8 := [115, ltr i]
def cmpLn (D : List UInt8) (i : Nat) : List UInt8 := compT.data.toList ++ 32 :: (cmpN i ++ 32 :: D)
def shrLn (i : Nat) : List UInt8 := shareT.data.toList ++ 32 :: (shrN i ++ [32, 49, 54])
def staLn : List UInt8 := [115, 116, 97, 114, 116, 32, 99, 97, 32, 102]
/-- k lines of comps, from the j-th on. -/
def cmpTx (D : List UInt8) : Nat → Nat → List UInt8
  | _, 0 => []
  | j, k + 1 => cmpLn D j ++ 10 :: cmpTx D (j + 1) k
def shrTx : Nat → Nat → List UInt8
  | _, 0 => []
  | j, k + 1 => shrLn j ++ 10 :: shrTx (j + 1) k
def mostT (D : List UInt8) (a b : Nat) : List UInt8 := cmpTx D 0 a ++ (shrTx 0 b ++ (staLn ++ [10]))
def cmpVs (n : Int) (j k : Nat) : List CompV := (List.range' j k).map fun i => ⟨bsL (cmpN i), n⟩
def shrVs (j k : Nat) : List CompV := (List.range' j k).map fun i => ⟨bsL (shrN i), 16⟩
def mostM (n : Int) (a b : Nat) : ManV := ⟨cmpVs n 0 a, [], shrVs 0 b, [], ⟨⟨#[]⟩, bsL [99, 97], bsL [102]⟩⟩
theorem ltr_no {i : Nat} (h : i < 26) : ltr i ≠ 10 ∧ ltr i ≠ 32 := by
  have e : (ltr i).toNat = 97 + i := by unfold ltr; rw [UInt8.toNat_ofNat']; omega
  refine ⟨fun x => ?_, fun x => ?_⟩
  · have := congrArg UInt8.toNat x
    rw [e] at this
    have e2 : (10 : UInt8).toNat = 10 := rfl
    omega
  · have := congrArg UInt8.toNat x
    rw [e] at this
    have e2 : (32 : UInt8).toNat = 32 := rfl
    omega
theorem cmp_words {D : List UInt8} {n i : Nat} (hD : DigsOf n D) (hi : i < 26) : splitB 32 (cmpLn D i) = [compT.data.toList, cmpN i, D] ∧ ∀ x ∈ cmpLn D i, x ≠ 10 := by
  obtain ⟨d1, d2, _⟩ := hD.no
  obtain ⟨l1, l2⟩ := ltr_no hi
  have hc : ∀ x ∈ cmpN i, x ≠ 32 := by
    intro x hx
    simp only [cmpN, List.mem_cons, List.not_mem_nil, or_false] at hx
    rcases hx with rfl | rfl
    · decide
    · exact l2
  refine ⟨?_, ?_⟩
  · unfold cmpLn
    rw [splitB_cons _ _ (by decide), splitB_cons _ _ hc, splitB_one _ d2]
  · intro x hx
    unfold cmpLn at hx
    simp only [List.mem_append, List.mem_cons, cmpN, List.not_mem_nil, or_false] at hx
    rcases hx with hx | rfl | (rfl | rfl) | rfl | hx
    · revert x; decide
    · decide
    · decide
    · exact l1
    · decide
    · exact d1 x hx
theorem shr_words {i : Nat} (hi : i < 26) : splitB 32 (shrLn i) = [shareT.data.toList, shrN i, [49, 54]] ∧ ∀ x ∈ shrLn i, x ≠ 10 := by
  obtain ⟨l1, l2⟩ := ltr_no hi
  have hc : ∀ x ∈ shrN i, x ≠ 32 := by
    intro x hx
    simp only [shrN, List.mem_cons, List.not_mem_nil, or_false] at hx
    rcases hx with rfl | rfl
    · decide
    · exact l2
  refine ⟨?_, ?_⟩
  · unfold shrLn
    rw [splitB_cons _ _ (by decide), splitB_cons _ _ hc, splitB_one _ (by decide)]
  · intro x hx
    unfold shrLn at hx
    simp only [List.mem_append, List.mem_cons, shrN, List.not_mem_nil, or_false] at hx
    rcases hx with hx | rfl | (rfl | rfl) | rfl | rfl | rfl
    · revert x; decide
    · decide
    · decide
    · exact l1
    · decide
    · decide
    · decide
theorem cmps_run {D : List UInt8} {n : Nat} (hD : DigsOf n D) (hn : n < 4294967296) : ∀ (k j : Nat) (R : List UInt8) (N : Nat) (m : ManV) (ph : Nat), ph ≤ 1 → j + k ≤ 26 → mlinesP (splitB 10 (cmpTx D j k ++ R)) N m ph = mlinesP (splitB 10 R) (N + k) { m with comps := m.comps ++ cmpVs n j k } (if k = 0 then ph else 1)
  | 0, j, R, N, m, ph, _, _ => by simp [cmpTx, cmpVs]
  | k + 1, j, R, N, m, ph, hp, hj => by
    obtain ⟨hw, h10⟩ := cmp_words (i := j) hD (by omega)
    have hl : mlineP (splitB 32 (cmpLn D j)) m ph = .ok ({ m with comps := m.comps ++ [⟨bsL (cmpN j), n⟩] }, 1) := by
      rw [hw]
      unfold mlineP
      simp only
      rw [if_pos ⟨rfl, hp⟩, hD.num hn]
    show mlinesP (splitB 10 ((cmpLn D j ++ 10 :: cmpTx D (j + 1) k) ++ R)) N m ph = _
    rw [List.append_assoc, List.cons_append, mlines_step h10 hl, cmps_run hD hn k (j + 1) R (N + 1) _ 1 (Nat.le_refl _) (by omega)]
    have e1 : N + 1 + k = N + (k + 1) := by omega
    have e2 : (if k = 0 then 1 else 1) = 1 := by split <;> rfl
    rw [e1, e2, if_neg (by omega : ¬ k + 1 = 0)]
    congr 1
    simp [cmpVs, List.range'_succ]
theorem shrs_run : ∀ (k j : Nat) (R : List UInt8) (N : Nat) (m : ManV) (ph : Nat), ph ≤ 3 → j + k ≤ 26 → mlinesP (splitB 10 (shrTx j k ++ R)) N m ph = mlinesP (splitB 10 R) (N + k) { m with shrs := m.shrs ++ shrVs j k } (if k = 0 then ph else 3)
  | 0, j, R, N, m, ph, _, _ => by simp [shrTx, shrVs]
  | k + 1, j, R, N, m, ph, hp, hj => by
    obtain ⟨hw, h10⟩ := shr_words (i := j) (by omega)
    have hl : mlineP (splitB 32 (shrLn j)) m ph = .ok ({ m with shrs := m.shrs ++ [⟨bsL (shrN j), 16⟩] }, 3) := by
      rw [hw]
      unfold mlineP
      simp only
      have h16 : numD [49, 54] = .ok 16 := rfl
      rw [if_neg (by rintro ⟨e, _⟩; exact absurd e (by decide +kernel)), if_pos ⟨rfl, hp⟩, h16]
      rfl
    show mlinesP (splitB 10 ((shrLn j ++ 10 :: shrTx (j + 1) k) ++ R)) N m ph = _
    rw [List.append_assoc, List.cons_append, mlines_step h10 hl, shrs_run k (j + 1) R (N + 1) _ 3 (Nat.le_refl _) (by omega)]
    have e1 : N + 1 + k = N + (k + 1) := by omega
    have e2 : (if k = 0 then 3 else 3) = 3 := by split <;> rfl
    rw [e1, e2, if_neg (by omega : ¬ k + 1 = 0)]
    congr 1
    simp [shrVs, List.range'_succ]
/-- What the text of ManMost tells, not asking whether that may be. -/
theorem most_lines {D : List UInt8} {n : Nat} (hD : DigsOf n D) (hn : n < 4294967296) (a b : Nat) (ha : 0 < a) (ha2 : a ≤ 26) (hb : b ≤ 26) : mlinesP (splitB 10 (mostT D a b)) 0 noMan 0 = .ok (mostM n a b) := by
  unfold mostT
  rw [cmps_run hD hn a 0 _ 0 noMan 0 (by omega) (by omega), if_neg (by omega : ¬ a = 0), shrs_run b 0 _ _ _ 1 (by omega) (by omega)]
  have hl : ∀ (m : ManV) (ph : Nat), ph ≤ 4 → mlineP (splitB 32 staLn) m ph = .ok ({ m with start := ⟨⟨#[]⟩, bsL [99, 97], bsL [102]⟩ }, 5) := fun m ph hp => by
    have hw : splitB 32 staLn = [mstartT.data.toList, [99, 97], [102]] := by decide +kernel
    rw [hw]
    unfold mlineP
    simp only
    rw [if_neg (by rintro ⟨e, _⟩; exact absurd e (by decide +kernel)), if_neg (by rintro ⟨e, _⟩; exact absurd e (by decide +kernel)), if_pos ⟨rfl, hp⟩]
  rw [mlines_step (p := staLn) (r := []) (by decide) (hl _ _ (by split <;> omega))]
  show (if ([] : List UInt8) ≠ [] ∨ 5 ≠ 5 then _ else Except.ok _) = _
  rw [if_neg (by simp)]
  simp [mostM, noMan]
/-! ### What of it is wrong -/
theorem mfirstE_zero {f : Nat → Int} : ∀ (n i : Nat), (∀ j, i ≤ j → j < i + n → f j = 0) → firstE f n i = none
  | 0, _, _ => rfl
  | n + 1, i, h => by
    unfold firstE
    rw [if_pos (h i (Nat.le_refl _) (by omega))]
    exact mfirstE_zero n (i + 1) fun j h1 h2 => h j (by omega) (by omega)
theorem ltr_inj {i j : Nat} (hi : i < 26) (hj : j < 26) (h : ltr i = ltr j) : i = j := by
  have := congrArg UInt8.toNat h
  unfold ltr at this
  rw [UInt8.toNat_ofNat', UInt8.toNat_ofNat'] at this
  omega
theorem bsL_inj {a b : List UInt8} (h : bsL a = bsL b) : a = b := by
  have := congrArg (fun s : ByteArray => s.data.toList) h
  simpa [bsL] using this
theorem sized_row {c : UInt8} {z : Int} {a i : Nat} (hi : i < a) (ha : a ≤ 26) : sizedAt ((List.range' 0 a).map fun i => ⟨bsL [c, ltr i], z⟩) i = sizedE (bsL [c, ltr i]) false z := by
  unfold sizedAt
  have e : ((List.range' 0 a).map fun i => (⟨bsL [c, ltr i], z⟩ : CompV))[i]? = some ⟨bsL [c, ltr i], z⟩ := by
    rw [List.getElem?_map, List.getElem?_range' hi]
    simp
  rw [e]
  have h : hasC (((List.range' 0 a).map fun i => (⟨bsL [c, ltr i], z⟩ : CompV)).take i) (bsL [c, ltr i]) = false := by
    unfold hasC
    rw [List.any_eq_false]
    intro x hx
    rw [← List.map_take, List.mem_map] at hx
    obtain ⟨j, hj, rfl⟩ := hx
    have hji : j < i := by
      obtain ⟨k, hk, e⟩ := List.mem_take_iff_getElem.1 hj
      rw [List.getElem_range'] at e
      omega
    simp only [decide_eq_true_eq]
    intro e
    have e2 := bsL_inj e
    simp only [List.cons.injEq, and_true, true_and] at e2
    have := ltr_inj (by omega) (by omega) e2
    omega
  simp only [h]
theorem cmp_good : ∀ i, i < 12 → goodB (bsL [99, ltr i]) = true := by decide +kernel
theorem shr_good : ∀ i, i < 12 → goodB (bsL [115, ltr i]) = true := by decide +kernel
theorem sizedE_good {n : ByteArray} {z : Int} (hg : goodB n = true) (h1 : z % 16 = 0) : sizedE n false z = if z = 0 ∨ 4096 < z then 14 else 0 := by
  unfold sizedE
  rw [if_neg (by rw [hg]; decide), if_neg (by decide), if_neg (by omega)]
theorem most_lens (n : Int) (a b : Nat) : (mostM n a b).comps.length = a ∧ (mostM n a b).shrs.length = b := by simp [mostM, cmpVs, shrVs]
theorem most_a {n : Int} {a b : Nat} (ha : 8 < a) : manW (mostM n a b) = (compsT, (a : Int), 15) := by
  unfold manW
  rw [(most_lens n a b).1, if_neg (by omega), if_pos ha]
theorem most_n {n : Int} {a b : Nat} (h0 : 0 < a) (ha : a ≤ 8) (h16 : n % 16 = 0) (hn : n = 0 ∨ 4096 < n) : manW (mostM n a b) = (compT, 0, 14) := by
  have hf : firstE (sizedAt (mostM n a b).comps) a 0 = some (0, 14) := by
    obtain ⟨k, rfl⟩ : ∃ k, a = k + 1 := ⟨a - 1, by omega⟩
    have e : sizedAt (mostM n (k + 1) b).comps 0 = 14 := by
      have := sized_row (c := 99) (z := n) (a := k + 1) (i := 0) (by omega) (by omega)
      rw [sizedE_good (cmp_good 0 (by decide)) h16, if_pos hn] at this
      exact this
    unfold firstE
    rw [if_neg (by rw [e]; decide), e]
  unfold manW
  rw [(most_lens n a b).1, if_neg (by omega), if_neg (by omega), hf]
  rfl
theorem most_cs {n : Int} {a b : Nat} (ha : a ≤ 8) (h16 : n % 16 = 0) (hn : ¬ (n = 0 ∨ 4096 < n)) : firstE (sizedAt (mostM n a b).comps) a 0 = none :=
  mfirstE_zero _ _ fun j _ h2 => by
    have := sized_row (c := 99) (z := n) (a := a) (i := j) (by omega) (by omega)
    rw [sizedE_good (cmp_good j (by omega)) h16, if_neg hn] at this
    exact this
theorem most_ss {n : Int} {a b : Nat} (hb : b ≤ 8) : firstE (sizedAt (mostM n a b).shrs) b 0 = none :=
  mfirstE_zero _ _ fun j _ h2 => by
    have := sized_row (c := 115) (z := 16) (a := b) (i := j) (by omega) (by omega)
    rw [sizedE_good (shr_good j (by omega)) (by decide), if_neg (by decide)] at this
    exact this
theorem most_b {n : Int} {a b : Nat} (h0 : 0 < a) (ha : a ≤ 8) (h16 : n % 16 = 0) (hn : ¬ (n = 0 ∨ 4096 < n)) (hb : 8 < b) : manW (mostM n a b) = (msharesT, (b : Int), 15) := by
  have hi : (mostM n a b).imps = [] := rfl
  unfold manW
  rw [(most_lens n a b).1, (most_lens n a b).2, hi, if_neg (by omega), if_neg (by omega), most_cs ha h16 hn]
  simp only [List.length_nil]
  rw [if_neg (by decide)]
  simp only [firstE]
  rw [if_pos hb]
theorem most_ok {n : Int} {a b : Nat} (h0 : 0 < a) (ha : a ≤ 8) (h16 : n % 16 = 0) (hn : ¬ (n = 0 ∨ 4096 < n)) (hb : b ≤ 8) : manW (mostM n a b) = okW := by
  have hi : (mostM n a b).imps = [] := rfl
  have hg : (mostM n a b).grns = [] := rfl
  have hs : (mostM n a b).start = ⟨⟨#[]⟩, bsL [99, 97], bsL [102]⟩ := rfl
  have hc : hasC (mostM n a b).comps (bsL [99, 97]) = true := by
    obtain ⟨k, rfl⟩ : ∃ k, a = k + 1 := ⟨a - 1, by omega⟩
    unfold hasC
    rw [List.any_eq_true]
    exact ⟨⟨bsL (cmpN 0), n⟩, by simp [mostM, cmpVs, List.range'_succ], by rfl⟩
  have hf : goodB (bsL [102]) = true := by decide +kernel
  unfold manW
  rw [(most_lens n a b).1, (most_lens n a b).2, hi, hg, hs, if_neg (by omega), if_neg (by omega), most_cs ha h16 hn]
  simp only [List.length_nil]
  rw [if_neg (by decide)]
  simp only [firstE]
  rw [if_neg (by omega), most_ss hb]
  simp only
  rw [if_neg (by decide), hc, hf, if_neg (by decide), if_neg (by simp)]
/-- What Parse says of the text of ManMost. -/
theorem most_says {D : List UInt8} {n : Nat} (hD : DigsOf n D) (hn : n < 4294967296) (h16 : n % 16 = 0) (a b : Nat) (ha : 0 < a) (ha2 : a ≤ 12) (hb : b ≤ 11) :
    (8 < a → manL (mostT D a b) = .error (compsT, (a : Int), 15)) ∧
    (a ≤ 8 → (n = 0 ∨ 4096 < n) → manL (mostT D a b) = .error (compT, 0, 14)) ∧
    (a ≤ 8 → ¬ (n = 0 ∨ 4096 < n) → 8 < b → manL (mostT D a b) = .error (msharesT, (b : Int), 15)) ∧
    (a ≤ 8 → ¬ (n = 0 ∨ 4096 < n) → b ≤ 8 → manL (mostT D a b) = .ok (mostM n a b)) := by
  have hl := most_lines hD hn a b ha (by omega) (by omega)
  have hz : (n : Int) % 16 = 0 := by omega
  have hm : manL (mostT D a b) = if (manW (mostM n a b)).2.2 = 0 then .ok (mostM n a b) else .error (manW (mostM n a b)) := by
    unfold manL
    rw [hl]
  rw [hm]
  refine ⟨fun h => ?_, fun h1 h2 => ?_, fun h1 h2 h3 => ?_, fun h1 h2 h3 => ?_⟩
  · rw [most_a h]; exact if_neg (show ¬ (15 : Int) = 0 by decide)
  · rw [most_n ha h1 hz (by omega)]; exact if_neg (show ¬ (14 : Int) = 0 by decide)
  · rw [most_b ha h1 hz (by omega) h3]; exact if_neg (show ¬ (15 : Int) = 0 by decide)
  · rw [most_ok ha h1 hz (by omega) h3]; exact if_pos rfl
/-! ### The texts of known -/
def kManT : List UInt8 := [99, 111, 109, 112, 32, 97, 32, 54, 52, 10, 99, 111, 109, 112, 32, 98, 32, 51, 50, 10, 105, 109, 112, 111, 114, 116, 32, 97, 32, 98, 32, 102, 10, 115, 104, 97, 114, 101, 32, 115, 32, 49, 54, 10, 103, 114, 97, 110, 116, 32, 97, 32, 115, 32, 114, 119, 10, 115, 116, 97, 114, 116, 32, 97, 32, 109, 97, 105, 110, 10]
def kMan : ManV := ⟨[⟨bsL [97], 64⟩, ⟨bsL [98], 32⟩], [⟨bsL [97], bsL [98], bsL [102]⟩], [⟨bsL [115], 16⟩], [⟨bsL [97], bsL [115], 3⟩], ⟨⟨#[]⟩, bsL [97], bsL [109, 97, 105, 110]⟩⟩
theorem kMan_parse : manL kManT = .ok kMan := by kernel_rfl
theorem kMan_text : manT kMan = kManT := by kernel_rfl
theorem kMan_check : manW kMan = okW := by kernel_rfl
theorem kMan_b : idxL kMan.comps (bsL [98]) 0 = 1 := by kernel_rfl
theorem kMan_c : idxL kMan.comps (bsL [99]) 0 = -1 := by kernel_rfl
def kMan2 : List UInt8 := [99, 111, 109, 112, 32, 97, 32, 54, 52, 10, 99, 111, 109, 112, 32, 97, 32, 54, 52, 10, 115, 116, 97, 114, 116, 32, 97, 32, 120, 10]
theorem kMan2_parse : manL kMan2 = .error (compT, 1, 13) := by kernel_rfl
def kMan3 : List UInt8 := [99, 111, 109, 112, 32, 97, 32, 32, 54, 52, 10]
theorem kMan3_parse : manL kMan3 = .error (mlineT, 0, 11) := by kernel_rfl
end Go.Proofs.YtbmjnfnekmeegaaGreatDoor

/- The linker, plain: what P1901 says of any manifest, any objects, any size. -/
namespace Go.Proofs.YtbmjnfnekmeegaaGreatDoor
set_option linter.unusedVariables false
set_option linter.unusedSimpArgs false
open Go.RowKit
/-- What is wrong: outer, and within (of none there: no part). -/
abbrev LnkW := WrV × WrV
def objectT : ByteArray := bsL [111, 98, 106, 101, 99, 116]
def findO (l : List ObjV) (n : ByteArray) : Option ObjV := l.find? fun o => decide (o.name = n)
def noObj : ObjV := ⟨⟨#[]⟩, [], [], [], []⟩
def objOf (l : List ObjV) (n : ByteArray) : ObjV := (findO l n).getD noObj
/-- A place into rising ones. -/
def putR (v : Int) : List Int → List Int
  | [] => [v]
  | x :: r => if x < v then x :: putR v r else if x = v then x :: r else v :: x :: r
/-- What an object exports, rising, each once. -/
def placesS (l : List SymV) (out : List Int) : List Int := match l with
  | [] => out
  | s :: r => placesS r (if s.exp = true then putR s.off out else out)
def placesL (o : ObjV) : List Int := placesS o.syms []
def exportsO (o : ObjV) (n : ByteArray) : Bool := match findS o.syms n with
  | none => false
  | some s => s.exp
/-- The first place of n from i on that has something. -/
def firstO {α : Type} (f : Nat → Option α) : Nat → Nat → Option α
  | 0, _ => none
  | n + 1, i => match f i with
    | some a => some a
    | none => firstO f n (i + 1)
def lobjE (m : ManV) (l : List ObjV) (i : Nat) : Option LnkW := match l[i]? with
  | none => none
  | some o =>
    if (objW o).2.2 ≠ 0 then some ((objectT, i, 0), objW o) else
    if hasC m.comps o.name = false then some ((objectT, i, 12), okW) else
    if ((l.take i).any fun p => decide (p.name = o.name)) = true then some ((objectT, i, 13), okW) else none
def lcompE (m : ManV) (l : List ObjV) (i : Nat) : Option LnkW := match m.comps[i]? with
  | none => none
  | some c => match findO l c.name with
    | none => some ((compT, i, 12), okW)
    | some o => if o.code.length = 0 then some ((compT, i, 16), okW) else if (placesL o).length > 64 then some ((compT, i, 15), okW) else none
/-- How many Rels all have. -/
def relsN (m : ManV) (l : List ObjV) : Nat := (m.comps.map fun c => (objOf l c.name).rels.length).sum
def limpE (m : ManV) (l : List ObjV) (i : Nat) : Option LnkW := match m.imps[i]? with
  | none => none
  | some x => if exportsO (objOf l x.from_) x.name = true then none else some ((importT, i, 12), okW)
/-- The permission that a comp has on a share; 0: none. -/
def grantP (m : ManV) (c s : ByteArray) : Int := match m.grns.find? fun g => decide (g.comp = c ∧ g.share = s) with
  | none => 0
  | some g => g.perm
def lrelE (m : ManV) (c : ByteArray) (r : RelV) : Int :=
  if r.kind = 2 then (if (m.imps.any fun x => decide (x.comp = c ∧ x.from_ = r.comp ∧ x.name = r.name)) = true then 0 else 12)
  else if r.kind = 3 then (if hasC m.shrs r.name = false then 12 else if grantP m c r.name = 0 then 3 else 0)
  else 0
def lrelsE (m : ManV) (l : List ObjV) (i : Nat) : Option LnkW := match m.comps[i]? with
  | none => none
  | some c => match firstE (fun k => match (objOf l c.name).rels[k]? with
      | none => 0
      | some r => lrelE m c.name r) (objOf l c.name).rels.length 0 with
    | none => none
    | some (k, e) => some ((compT, i, 0), (relT, k, e))
/-- To a multiple of 16. -/
def fillN (n : Nat) : Int := ((n + 15) / 16 * 16 : Nat)
/-! ### The layout -/
def lpart (l : List ObjV) (c : CompV) (a : Int) : PartV :=
  let o := objOf l c.name
  ⟨o.name, ⟨a, fillN o.code.length⟩, ⟨a + fillN o.code.length, fillN o.data.length⟩, ⟨a + fillN o.code.length + fillN o.data.length, c.stack⟩, (placesL o).map fun e => a + e⟩
def lendC (l : List ObjV) (c : CompV) (a : Int) : Int := a + fillN (objOf l c.name).code.length + fillN (objOf l c.name).data.length + c.stack
def lparts (l : List ObjV) : List CompV → Int → List PartV
  | [], _ => []
  | c :: r, a => lpart l c a :: lparts l r (lendC l c a)
/-- Where the shares begin. -/
def lend (l : List ObjV) : List CompV → Int → Int
  | [], a => a
  | c :: r, a => lend l r (lendC l c a)
def lshares : List CompV → Int → List SpanV
  | [], _ => []
  | s :: r, a => ⟨a, s.stack⟩ :: lshares r (a + s.stack)
def lendS : List CompV → Int → Int
  | [], a => a
  | s :: r, a => lendS r (a + s.stack)
def padL (b : List Nat) (a : Int) (c : List Nat) : List Nat := b ++ (List.replicate (a.toNat - b.length) 0 ++ c)
def lbytes (l : List ObjV) : List CompV → Int → List Nat → List Nat
  | [], _, b => b
  | c :: r, a, b => lbytes l r (lendC l c a) (padL (padL b a (objOf l c.name).code) (a + fillN (objOf l c.name).code.length) (objOf l c.name).data)
def noPart : PartV := ⟨⟨#[]⟩, ⟨0, 0⟩, ⟨0, 0⟩, ⟨0, 0⟩, []⟩
def partAt (ps : List PartV) (k : Int) : PartV := ps.getD k.toNat noPart
/-- A name's Sym; none: nought. -/
def symOf (o : ObjV) (n : ByteArray) : SymV := (findS o.syms n).getD ⟨⟨#[]⟩, false, 0, false⟩
def linit (m : ManV) (l : List ObjV) (ps : List PartV) (ss : List SpanV) (k : Nat) (o : ObjV) (r : RelV) : InitV :=
  if r.kind = 1 then
    ⟨k, (partAt ps k).data.at_ + r.off, r.kind, (symOf o r.name).data, 0, (if (symOf o r.name).data = true then (partAt ps k).data.at_ else (partAt ps k).code.at_) + (symOf o r.name).off, r.perm⟩
  else if r.kind = 2 then
    ⟨k, (partAt ps k).data.at_ + r.off, r.kind, false, idxL m.comps r.comp 0, (partAt ps (idxL m.comps r.comp 0)).code.at_ + (symOf (objOf l r.comp) r.name).off, r.perm⟩
  else
    ⟨k, (partAt ps k).data.at_ + r.off, r.kind, false, idxL m.shrs r.name 0, (ss.getD (idxL m.shrs r.name 0).toNat ⟨0, 0⟩).at_, grantP m o.name r.name⟩
def linits (m : ManV) (l : List ObjV) (ps : List PartV) (ss : List SpanV) : List CompV → Nat → List InitV
  | [], _ => []
  | c :: r, k => ((objOf l c.name).rels.map fun x => linit m l ps ss k (objOf l c.name) x) ++ linits m l ps ss r (k + 1)
/-- The image, of what is right. -/
def lnkI (m : ManV) (l : List ObjV) (size : Int) : ImgV :=
  let ps := lparts l m.comps 16
  let ss := lshares m.shrs (lend l m.comps 16)
  ⟨size, ps, ss, linits m l ps ss m.comps 0, idxL m.comps m.start.from_ 0, (partAt ps (idxL m.comps m.start.from_ 0)).code.at_ + (symOf (objOf l m.start.from_) m.start.name).off, lbytes l m.comps 16 []⟩
/-- What it takes. -/
def lwant (m : ManV) (l : List ObjV) : Int := lendS m.shrs (lend l m.comps 16)
/-- What is wrong but for the size. -/
def lnkE (m : ManV) (l : List ObjV) : Option LnkW :=
  if (manW m).2.2 ≠ 0 then some (manW m, okW) else
  match firstO (lobjE m l) l.length 0 with
  | some x => some x
  | none => match firstO (lcompE m l) m.comps.length 0 with
    | some x => some x
    | none =>
      if relsN m l > 512 then some ((relsT, relsN m l, 15), okW) else
      match firstO (limpE m l) m.imps.length 0 with
      | some x => some x
      | none => match firstO (lrelsE m l) m.comps.length 0 with
        | some x => some x
        | none => if exportsO (objOf l m.start.from_) m.start.name = false then some ((mstartT, 0, 12), okW) else none
/-- What Link says. -/
def lnkL (m : ManV) (l : List ObjV) (size : Int) : Except LnkW ImgV := match lnkE m l with
  | some x => .error x
  | none =>
    if size < lwant m l ∨ 65536 < size then .error ((sizeT, lwant m l, 6), okW) else
    if size % 16 ≠ 0 then .error ((sizeT, lwant m l, 5), okW) else .ok (lnkI m l size)
end Go.Proofs.YtbmjnfnekmeegaaGreatDoor

/- The linker, plain: in whichever order the objects come; for whichever size. -/
namespace Go.Proofs.YtbmjnfnekmeegaaGreatDoor
set_option linter.unusedVariables false
set_option linter.unusedSimpArgs false
open Go.RowKit
theorem firstO_none {α : Type} {f : Nat → Option α} : ∀ (n i : Nat), firstO f n i = none ↔ ∀ j, i ≤ j → j < i + n → f j = none
  | 0, i => ⟨fun _ j _ _ => by omega, fun _ => rfl⟩
  | n + 1, i => by
    unfold firstO
    cases hf : f i with
    | some a => exact ⟨fun h => (by cases h), fun h => by have := h i (Nat.le_refl _) (by omega); rw [hf] at this; cases this⟩
    | none =>
      rw [firstO_none n (i + 1)]
      refine ⟨fun h j h1 h2 => ?_, fun h j h1 h2 => h j (by omega) (by omega)⟩
      by_cases e : j = i
      · subst e; exact hf
      · exact h j (by omega) (by omega)
theorem firstO_zero {α : Type} {f : Nat → Option α} {n : Nat} (h : firstO f n 0 = none) (k : Nat) (hk : k < n) : f k = none := (firstO_none n 0).1 h k (Nat.zero_le _) (by omega)
/-! ### Found by name -/
def NamesOnce (l : List ObjV) : Prop := l.Pairwise fun a b => a.name ≠ b.name
theorem find_some {l : List ObjV} (h : NamesOnce l) {n : ByteArray} {o : ObjV} : findO l n = some o ↔ o ∈ l ∧ o.name = n := by
  unfold findO
  induction l with
  | nil => simp
  | cons a r ih =>
    obtain ⟨h1, h2⟩ := List.pairwise_cons.1 h
    rw [List.find?_cons]
    by_cases e : a.name = n
    · rw [decide_eq_true e]
      simp only [Option.some.injEq, List.mem_cons]
      constructor
      · rintro rfl; exact ⟨.inl rfl, e⟩
      · rintro ⟨rfl | hm, hn⟩
        · rfl
        · exact absurd (e.trans hn.symm) (h1 _ hm)
    · rw [decide_eq_false e]
      simp only [List.mem_cons]
      rw [ih h2]
      constructor
      · rintro ⟨hm, hn⟩; exact ⟨.inr hm, hn⟩
      · rintro ⟨rfl | hm, hn⟩
        · exact absurd hn e
        · exact ⟨hm, hn⟩
theorem find_mem {l : List ObjV} {n : ByteArray} {o : ObjV} (h : findO l n = some o) : o ∈ l ∧ o.name = n := by
  unfold findO at h
  exact ⟨List.mem_of_find?_eq_some h, by simpa using List.find?_some h⟩
theorem find_perm {l t : List ObjV} (hp : l.Perm t) (h : NamesOnce l) : findO l = findO t := by
  have ht : NamesOnce t := (hp.pairwise_iff (fun e => Ne.symm e)).1 h
  funext n
  apply Option.ext
  intro o
  rw [find_some h, find_some ht, hp.mem_iff]
/-! ### What is right -/
structure LnkOk (m : ManV) (l : List ObjV) : Prop where
  man : (manW m).2.2 = 0
  obj : ∀ o ∈ l, (objW o).2.2 = 0 ∧ hasC m.comps o.name = true
  once : NamesOnce l
  comp : ∀ k, k < m.comps.length → lcompE m l k = none
  rels : relsN m l ≤ 512
  imp : ∀ k, k < m.imps.length → limpE m l k = none
  rel : ∀ k, k < m.comps.length → lrelsE m l k = none
  start : exportsO (objOf l m.start.from_) m.start.name = true
theorem lobj_all {m : ManV} {l : List ObjV} : firstO (lobjE m l) l.length 0 = none ↔ (∀ o ∈ l, (objW o).2.2 = 0 ∧ hasC m.comps o.name = true) ∧ NamesOnce l := by
  have key : ∀ (i : Nat) (hi : i < l.length), lobjE m l i = none ↔ (objW l[i]).2.2 = 0 ∧ hasC m.comps l[i].name = true ∧ ∀ j (hj : j < i), l[j].name ≠ l[i].name := by
    intro i hi
    unfold lobjE
    rw [List.getElem?_eq_getElem hi]
    simp only
    by_cases h1 : (objW l[i]).2.2 ≠ 0
    · rw [if_pos h1]; exact ⟨fun h => (by cases h), fun h => absurd h.1 h1⟩
    rw [if_neg h1]
    by_cases h2 : hasC m.comps l[i].name = false
    · rw [if_pos h2]; exact ⟨fun h => (by cases h), fun h => by rw [h.2.1] at h2; cases h2⟩
    rw [if_neg h2]
    have h3 : (((l.take i).any fun p => decide (p.name = l[i].name)) = true) ↔ ∃ j, ∃ hj : j < i, l[j].name = l[i].name := by
      rw [List.any_eq_true]
      constructor
      · rintro ⟨x, hx, e⟩
        obtain ⟨j, hj, rfl⟩ := List.mem_iff_getElem.1 hx
        have hj2 : j < i := by rw [List.length_take] at hj; omega
        rw [List.getElem_take] at e
        exact ⟨j, hj2, by simpa using e⟩
      · rintro ⟨j, hj, e⟩
        refine ⟨l[j], List.mem_iff_getElem.2 ⟨j, by rw [List.length_take]; omega, by rw [List.getElem_take]⟩, by simpa using e⟩
    by_cases h4 : ((l.take i).any fun p => decide (p.name = l[i].name)) = true
    · rw [if_pos h4]
      obtain ⟨j, hj, e⟩ := h3.1 h4
      exact ⟨fun h => (by cases h), fun h => absurd e (h.2.2 j hj)⟩
    · rw [if_neg h4]
      exact ⟨fun _ => ⟨by simpa using h1, by simpa using h2, fun j hj e => h4 (h3.2 ⟨j, hj, e⟩)⟩, fun _ => rfl⟩
  rw [firstO_none]
  constructor
  · intro h
    have h2 : ∀ (i : Nat) (hi : i < l.length), _ := fun i hi => (key i hi).1 (h i (Nat.zero_le _) (by omega))
    refine ⟨fun o ho => ?_, List.pairwise_iff_getElem.2 fun i j hi hj hij => (h2 j hj).2.2 i hij⟩
    obtain ⟨i, hi, rfl⟩ := List.mem_iff_getElem.1 ho
    exact ⟨(h2 i hi).1, (h2 i hi).2.1⟩
  · rintro ⟨h1, h2⟩ j _ hj
    have hj' : j < l.length := by omega
    have h3 := h1 l[j] (List.getElem_mem hj')
    exact (key j hj').2 ⟨h3.1, h3.2, fun i hi => List.pairwise_iff_getElem.1 h2 i j (by omega) hj' hi⟩
theorem lnkE_none {m : ManV} {l : List ObjV} : lnkE m l = none ↔ LnkOk m l := by
  unfold lnkE
  constructor
  · intro h
    by_cases h1 : (manW m).2.2 ≠ 0
    · rw [if_pos h1] at h; cases h
    rw [if_neg h1] at h
    cases h2 : firstO (lobjE m l) l.length 0 with
    | some x => rw [h2] at h; cases h
    | none =>
      rw [h2] at h
      simp only at h
      cases h3 : firstO (lcompE m l) m.comps.length 0 with
      | some x => rw [h3] at h; cases h
      | none =>
        rw [h3] at h
        simp only at h
        by_cases h4 : relsN m l > 512
        · rw [if_pos h4] at h; cases h
        rw [if_neg h4] at h
        cases h5 : firstO (limpE m l) m.imps.length 0 with
        | some x => rw [h5] at h; cases h
        | none =>
          rw [h5] at h
          simp only at h
          cases h6 : firstO (lrelsE m l) m.comps.length 0 with
          | some x => rw [h6] at h; cases h
          | none =>
            rw [h6] at h
            simp only at h
            by_cases h7 : exportsO (objOf l m.start.from_) m.start.name = false
            · rw [if_pos h7] at h; cases h
            · exact ⟨by simpa using h1, (lobj_all.1 h2).1, (lobj_all.1 h2).2, firstO_zero h3, by omega, firstO_zero h5, firstO_zero h6, by simpa using h7⟩
  · intro h
    rw [if_neg (by simpa using h.man), lobj_all.2 ⟨h.obj, h.once⟩]
    simp only
    rw [(firstO_none _ _).2 (fun j _ hj => h.comp j (by omega))]
    simp only
    rw [if_neg (by have := h.rels; omega), (firstO_none _ _).2 (fun j _ hj => h.imp j (by omega))]
    simp only
    rw [(firstO_none _ _).2 (fun j _ hj => h.rel j (by omega))]
    simp only
    rw [if_neg (by rw [h.start]; decide)]
/-! ### In whichever order -/
theorem obj_same {l t : List ObjV} (h : findO l = findO t) : objOf l = objOf t := by funext n; unfold objOf; rw [h]
theorem lparts_same {l t : List ObjV} (h : findO l = findO t) : ∀ (cs : List CompV) (a : Int), lparts l cs a = lparts t cs a
  | [], _ => rfl
  | c :: r, a => by unfold lparts; rw [show lpart l c a = lpart t c a by unfold lpart; rw [obj_same h], show lendC l c a = lendC t c a by unfold lendC; rw [obj_same h], lparts_same h r]
theorem lend_same {l t : List ObjV} (h : findO l = findO t) : ∀ (cs : List CompV) (a : Int), lend l cs a = lend t cs a
  | [], _ => rfl
  | c :: r, a => by unfold lend; rw [show lendC l c a = lendC t c a by unfold lendC; rw [obj_same h], lend_same h r]
theorem lbytes_same {l t : List ObjV} (h : findO l = findO t) : ∀ (cs : List CompV) (a : Int) (b : List Nat), lbytes l cs a b = lbytes t cs a b
  | [], _, _ => rfl
  | c :: r, a, b => by unfold lbytes; rw [show lendC l c a = lendC t c a by unfold lendC; rw [obj_same h], obj_same h, lbytes_same h r]
theorem linits_same {m : ManV} {l t : List ObjV} (h : findO l = findO t) {ps : List PartV} {ss : List SpanV} : ∀ (cs : List CompV) (k : Nat), linits m l ps ss cs k = linits m t ps ss cs k
  | [], _ => rfl
  | c :: r, k => by
    unfold linits
    rw [linits_same h r, show linit m l ps ss k = linit m t ps ss k by funext o x; unfold linit; rw [obj_same h], obj_same h]
theorem lnkI_same {m : ManV} {l t : List ObjV} (h : findO l = findO t) (size : Int) : lnkI m l size = lnkI m t size := by
  unfold lnkI
  simp only [lparts_same h, lend_same h, lbytes_same h, linits_same h, obj_same h]
theorem LnkOk.turn {m : ManV} {l t : List ObjV} (h : LnkOk m l) (hp : l.Perm t) : LnkOk m t := by
  have hf := find_perm hp h.once
  have ho := obj_same hf
  refine ⟨h.man, fun o hm => h.obj o (hp.mem_iff.2 hm), (hp.pairwise_iff (fun e => Ne.symm e)).1 h.once, fun k hk => ?_, ?_, fun k hk => ?_, fun k hk => ?_, ?_⟩
  · have := h.comp k hk; unfold lcompE at this ⊢; rw [← hf]; exact this
  · have := h.rels; unfold relsN at this ⊢; rw [← ho]; exact this
  · have := h.imp k hk; unfold limpE at this ⊢; rw [← ho]; exact this
  · have := h.rel k hk; unfold lrelsE at this ⊢; rw [← ho]; exact this
  · have := h.start; rw [← ho]; exact this
/-- LINKTURNED, plain: the same, or neither is. -/
theorem lnk_turn {m : ManV} {l t : List ObjV} (hp : l.Perm t) (size : Int) {i : ImgV} (h : lnkL m l size = .ok i) : lnkL m t size = .ok i := by
  unfold lnkL at h ⊢
  cases h1 : lnkE m l with
  | some x => rw [h1] at h; cases h
  | none =>
    have h2 := lnkE_none.1 h1
    have hf := find_perm hp h2.once
    rw [h1] at h
    rw [lnkE_none.2 (h2.turn hp), ← show lwant m l = lwant m t by unfold lwant; rw [lend_same hf], ← lnkI_same hf]
    exact h
/-! ### For whichever size -/
theorem fill_mod (n : Nat) : fillN n % 16 = 0 := by unfold fillN; omega
theorem fill_le (n : Nat) : (n : Int) ≤ fillN n ∧ fillN n < n + 16 ∧ 0 ≤ fillN n := by unfold fillN; omega
/-- What the stacks and the shares are. -/
def Sized (l : List CompV) : Prop := ∀ c ∈ l, c.stack % 16 = 0 ∧ 0 < c.stack ∧ c.stack ≤ 4096
theorem lend_mod {l : List ObjV} : ∀ {cs : List CompV} {a : Int}, Sized cs → a % 16 = 0 → lend l cs a % 16 = 0
  | [], _, _, h => h
  | c :: r, a, hs, h => by
    unfold lend
    refine lend_mod (fun x hx => hs x (by simp [hx])) ?_
    unfold lendC
    have := hs c (by simp); have := fill_mod (objOf l c.name).code.length; have := fill_mod (objOf l c.name).data.length
    omega
theorem lendS_mod : ∀ {cs : List CompV} {a : Int}, Sized cs → a % 16 = 0 → lendS cs a % 16 = 0
  | [], _, _, h => h
  | c :: r, a, hs, h => by
    unfold lendS
    refine lendS_mod (fun x hx => hs x (by simp [hx])) ?_
    have := hs c (by simp)
    omega
theorem lend_le {l : List ObjV} : ∀ {cs : List CompV} {a : Int}, Sized cs → a ≤ lend l cs a
  | [], _, _ => Int.le_refl _
  | c :: r, a, hs => by
    unfold lend
    refine Int.le_trans ?_ (lend_le (fun x hx => hs x (by simp [hx])))
    unfold lendC
    have := hs c (by simp); have := fill_le (objOf l c.name).code.length; have := fill_le (objOf l c.name).data.length
    omega
theorem lendS_le : ∀ {cs : List CompV} {a : Int}, Sized cs → a ≤ lendS cs a
  | [], _, _ => Int.le_refl _
  | c :: r, a, hs => by
    unfold lendS
    refine Int.le_trans ?_ (lendS_le (fun x hx => hs x (by simp [hx])))
    have := hs c (by simp)
    omega
/-- What one that is right has of its manifest. -/
structure ManMore (m : ManV) : Prop where
  comps : m.comps.length ≠ 0 ∧ m.comps.length ≤ 8
  comp : ∀ k, k < m.comps.length → sizedAt m.comps k = 0
  imps : m.imps.length ≤ 64
  imp : ∀ k, k < m.imps.length → impE m k = 0
  shrs : m.shrs.length ≤ 8
  shr : ∀ k, k < m.shrs.length → sizedAt m.shrs k = 0
  grns : m.grns.length ≤ 64
  grn : ∀ k, k < m.grns.length → grnE m k = 0
  start : hasC m.comps m.start.from_ = true ∧ goodB m.start.name = true
theorem manW_more {m : ManV} (h : (manW m).2.2 = 0) : ManMore m := by
  unfold manW at h
  by_cases h1 : m.comps.length = 0
  · rw [if_pos h1] at h; exact absurd h (by decide : ¬ (16 : Int) = 0)
  rw [if_neg h1] at h
  by_cases h2 : m.comps.length > 8
  · rw [if_pos h2] at h; exact absurd h (by decide : ¬ (15 : Int) = 0)
  rw [if_neg h2] at h
  cases h3 : firstE (sizedAt m.comps) m.comps.length 0 with
  | some x => rw [h3] at h; exact absurd h (first_some _ _ _ _ h3)
  | none =>
    rw [h3] at h
    dsimp only at h
    by_cases h4 : m.imps.length > 64
    · rw [if_pos h4] at h; exact absurd h (by decide : ¬ (15 : Int) = 0)
    rw [if_neg h4] at h
    cases h5 : firstE (impE m) m.imps.length 0 with
    | some x => rw [h5] at h; exact absurd h (first_some _ _ _ _ h5)
    | none =>
      rw [h5] at h
      dsimp only at h
      by_cases h6 : m.shrs.length > 8
      · rw [if_pos h6] at h; exact absurd h (by decide : ¬ (15 : Int) = 0)
      rw [if_neg h6] at h
      cases h7 : firstE (sizedAt m.shrs) m.shrs.length 0 with
      | some x => rw [h7] at h; exact absurd h (first_some _ _ _ _ h7)
      | none =>
        rw [h7] at h
        dsimp only at h
        by_cases h8 : m.grns.length > 64
        · rw [if_pos h8] at h; exact absurd h (by decide : ¬ (15 : Int) = 0)
        rw [if_neg h8] at h
        cases h9 : firstE (grnE m) m.grns.length 0 with
        | some x => rw [h9] at h; exact absurd h (first_some _ _ _ _ h9)
        | none =>
          rw [h9] at h
          dsimp only at h
          by_cases h10 : (!hasC m.comps m.start.from_ || !goodB m.start.name) = true
          · rw [if_pos h10] at h; exact absurd h (by decide : ¬ (12 : Int) = 0)
          exact ⟨⟨h1, by omega⟩, firstE_zero h3, by omega, firstE_zero h5, by omega, firstE_zero h7, by omega, firstE_zero h9, by simpa using h10⟩
/-- A name, whether it was ahead, a size: of what is right. -/
theorem sized_parts {l : List CompV} {k : Nat} (hk : k < l.length) (h : sizedAt l k = 0) : goodB l[k].name = true ∧ hasC (l.take k) l[k].name = false ∧ l[k].stack % 16 = 0 ∧ l[k].stack ≠ 0 ∧ l[k].stack ≤ 4096 := by
  unfold sizedAt at h
  rw [List.getElem?_eq_getElem hk] at h
  simp only at h
  unfold sizedE at h
  split at h
  · cases h
  rename_i h1
  split at h
  · cases h
  rename_i h2
  split at h
  · cases h
  rename_i h3
  split at h
  · cases h
  rename_i h4
  exact ⟨by simpa using h1, by simpa using h2, by omega, by omega, by omega⟩
/-- Sizes are numbers of 32 bits. -/
def Nat32 (l : List CompV) : Prop := ∀ c ∈ l, 0 ≤ c.stack ∧ c.stack < 4294967296
theorem sized_all {l : List CompV} (hn : Nat32 l) (h : ∀ k, k < l.length → sizedAt l k = 0) : Sized l := by
  intro c hc
  obtain ⟨k, hk, rfl⟩ := List.mem_iff_getElem.1 hc
  obtain ⟨_, _, h1, h2, h3⟩ := sized_parts hk (h k hk)
  have := hn _ (List.getElem_mem hk)
  exact ⟨h1, by omega, h3⟩
theorem lwant_mod {m : ManV} {l : List ObjV} (hc : Sized m.comps) (hs : Sized m.shrs) : lwant m l % 16 = 0 := lendS_mod hs (lend_mod hc (by decide))
theorem lwant_ge {m : ManV} {l : List ObjV} (hc : Sized m.comps) (hs : Sized m.shrs) : 16 ≤ lwant m l := Int.le_trans (lend_le hc) (lendS_le hs)
/-- LINKROOM, plain: linked for one size it is for each that has room, alike but for the size; for less not. -/
theorem lnk_room {m : ManV} {l : List ObjV} {size : Int} {i : ImgV} (h : lnkL m l size = .ok i) : i = lnkI m l size ∧ lnkE m l = none ∧ lwant m l ≤ size ∧ size ≤ 65536 ∧ size % 16 = 0 := by
  unfold lnkL at h
  cases h1 : lnkE m l with
  | some x => rw [h1] at h; cases h
  | none =>
    rw [h1] at h
    simp only at h
    split at h
    · cases h
    · rename_i h2
      split at h
      · cases h
      · rename_i h3
        cases h
        exact ⟨rfl, rfl, by omega, by omega, by omega⟩
theorem lnk_more {m : ManV} {l : List ObjV} {size : Int} (h : lnkE m l = none) (h1 : lwant m l ≤ size) (h2 : size ≤ 65536) (h3 : size % 16 = 0) : lnkL m l size = .ok { lnkI m l 65536 with size := size } := by
  unfold lnkL
  rw [h]
  simp only
  rw [if_neg (by omega), if_neg (by omega)]
  rfl
theorem lnk_less {m : ManV} {l : List ObjV} {size : Int} (h : lnkE m l = none) (h1 : size < lwant m l) : lnkL m l size = .error ((sizeT, lwant m l, 6), okW) := by
  unfold lnkL
  rw [h]
  simp only
  rw [if_pos (.inl h1)]
/-- Where each part's stack ends, each share. -/
theorem lparts_len {l : List ObjV} : ∀ (cs : List CompV) (a : Int), (lparts l cs a).length = cs.length
  | [], _ => rfl
  | c :: r, a => by unfold lparts; rw [List.length_cons, lparts_len r, List.length_cons]
theorem lshares_len : ∀ (cs : List CompV) (a : Int), (lshares cs a).length = cs.length
  | [], _ => rfl
  | c :: r, a => by unfold lshares; rw [List.length_cons, lshares_len r, List.length_cons]
/-- Each part is its comp's, where the ones ahead end. -/
theorem lparts_at {l : List ObjV} : ∀ (cs : List CompV) (a : Int) (k : Nat) (hk : k < cs.length), (lparts l cs a)[k]? = some (lpart l cs[k] (lend l (cs.take k) a))
  | [], _, _, hk => by cases hk
  | c :: r, a, 0, _ => rfl
  | c :: r, a, k + 1, hk => by
    unfold lparts
    rw [List.getElem?_cons_succ, lparts_at r (lendC l c a) k (by simpa using hk)]
    rfl
theorem lend_take {l : List ObjV} : ∀ (cs : List CompV) (a : Int) (k : Nat) (hk : k < cs.length), lend l (cs.take (k + 1)) a = lendC l cs[k] (lend l (cs.take k) a)
  | [], _, _, hk => by cases hk
  | c :: r, a, 0, _ => by simp [lend]
  | c :: r, a, k + 1, hk => by
    rw [List.take_succ_cons, List.take_succ_cons]
    unfold lend
    exact lend_take r (lendC l c a) k (by simpa using hk)
theorem lshares_at : ∀ (cs : List CompV) (a : Int) (k : Nat) (hk : k < cs.length), (lshares cs a)[k]? = some ⟨lendS (cs.take k) a, cs[k].stack⟩
  | [], _, _, hk => by cases hk
  | c :: r, a, 0, _ => rfl
  | c :: r, a, k + 1, hk => by
    unfold lshares
    rw [List.getElem?_cons_succ, lshares_at r (a + c.stack) k (by simpa using hk)]
    rfl
theorem lendS_take : ∀ (cs : List CompV) (a : Int) (k : Nat) (hk : k < cs.length), lendS (cs.take (k + 1)) a = lendS (cs.take k) a + cs[k].stack
  | [], _, _, hk => by cases hk
  | c :: r, a, 0, _ => by simp [lendS]
  | c :: r, a, k + 1, hk => by
    rw [List.take_succ_cons, List.take_succ_cons]
    unfold lendS
    exact lendS_take r (a + c.stack) k (by simpa using hk)
/-- known's. -/
def kManL : ManV := ⟨[⟨⟨#[97]⟩, 16⟩], [], [], [], ⟨⟨#[]⟩, ⟨#[97]⟩, ⟨#[102]⟩⟩⟩
def kObjL : ObjV := ⟨⟨#[97]⟩, [0, 0, 0, 67], [], [⟨⟨#[102]⟩, false, 0, true⟩], []⟩
def kImgL : ImgV := ⟨64, [⟨⟨#[97]⟩, ⟨16, 16⟩, ⟨32, 0⟩, ⟨32, 16⟩, [16]⟩], [], [], 0, 16, List.replicate 16 0 ++ [0, 0, 0, 67] ++ List.replicate 12 0⟩
theorem kLnk : lnkL kManL [kObjL] 64 = .ok kImgL := by kernel_rfl
theorem kLnk0 : lnkL kManL [] 64 = .error ((compT, 0, 12), okW) := by kernel_rfl
theorem kLnk32 : lnkL kManL [kObjL] 32 = .error ((sizeT, 48, 6), okW) := by kernel_rfl
end Go.Proofs.YtbmjnfnekmeegaaGreatDoor

/- The linker, plain: what is linked may be (P1902). -/
namespace Go.Proofs.YtbmjnfnekmeegaaGreatDoor
set_option linter.unusedVariables false
set_option linter.unusedSimpArgs false
open Go.RowKit
/-! ### Rising places, from one on, below another -/
def RisesTo : Int → List Int → Int → Prop
  | lo, [], hi => lo ≤ hi
  | lo, x :: r, hi => lo ≤ x ∧ RisesTo (x + 1) r hi
theorem RisesTo.le : ∀ {l : List Int} {lo hi : Int}, RisesTo lo l hi → lo ≤ hi
  | [], _, _, h => h
  | x :: r, _, _, h => by have := RisesTo.le (l := r) h.2; have := h.1; omega
theorem RisesTo.mono : ∀ {l : List Int} {lo hi lo' hi' : Int}, RisesTo lo l hi → lo' ≤ lo → hi ≤ hi' → RisesTo lo' l hi'
  | [], lo, hi, _, _, h, h1, h2 => by have h' : lo ≤ hi := h; show _ ≤ _; omega
  | x :: r, _, _, _, _, h, h1, h2 => ⟨by have := h.1; omega, RisesTo.mono (l := r) h.2 (Int.le_refl _) h2⟩
theorem RisesTo.append : ∀ {l r : List Int} {a b c : Int}, RisesTo a l b → RisesTo b r c → RisesTo a (l ++ r) c
  | [], _, _, _, _, h, h2 => h2.mono h (Int.le_refl _)
  | x :: l, _, _, _, _, h, h2 => ⟨h.1, RisesTo.append (l := l) h.2 h2⟩
theorem RisesTo.mem : ∀ {l : List Int} {lo hi x : Int}, RisesTo lo l hi → x ∈ l → lo ≤ x ∧ x < hi
  | [], _, _, _, _, hx => by cases hx
  | y :: r, lo, hi, x, h, hx => by
    have h1 := h.1; have h2 := RisesTo.le (l := r) h.2
    rcases List.mem_cons.1 hx with rfl | hm
    · omega
    · have := RisesTo.mem (l := r) h.2 hm; omega
theorem RisesTo.next : ∀ {l : List Int} {lo hi : Int} {j : Nat} (hj : j + 1 < l.length), RisesTo lo l hi → l[j] < l[j + 1]
  | [], _, _, _, hj, _ => by cases hj
  | x :: r, lo, hi, 0, hj, h => by
    have hj' : 0 < r.length := by simpa using hj
    have := RisesTo.mem (l := r) h.2 (List.getElem_mem hj')
    simp only [List.getElem_cons_zero, List.getElem_cons_succ]
    omega
  | x :: r, lo, hi, j + 1, hj, h => by
    simp only [List.getElem_cons_succ]
    exact RisesTo.next (l := r) (by simpa using hj) h.2
theorem RisesTo.of_next : ∀ {l : List Int} {lo hi : Int}, lo ≤ hi → (∀ x, l.head? = some x → lo ≤ x) → (∀ x ∈ l, x < hi) → (∀ (j : Nat) (hj : j + 1 < l.length), l[j] < l[j + 1]) → RisesTo lo l hi
  | [], _, _, h, _, _, _ => h
  | x :: r, lo, hi, h, h1, h2, h3 => ⟨h1 x rfl, RisesTo.of_next (l := r) (by have := h2 x (by simp); omega) (fun y hy => by
      cases r with
      | nil => cases hy
      | cons z r =>
        simp only [List.head?_cons, Option.some.injEq] at hy
        subst hy
        have := h3 0 (by simp)
        simp only [List.getElem_cons_zero, List.getElem_cons_succ] at this
        omega) (fun y hy => h2 y (by simp [hy])) (fun j hj => by
      have := h3 (j + 1) (by simpa using hj)
      simpa only [List.getElem_cons_succ] using this)⟩
theorem RisesTo.shift (d : Int) : ∀ {l : List Int} {lo hi : Int}, RisesTo lo l hi → RisesTo (d + lo) (l.map fun e => d + e) (d + hi)
  | [], lo, hi, h => by have h' : lo ≤ hi := h; show _ ≤ _; omega
  | x :: r, lo, hi, h => ⟨by have := h.1; show _ ≤ d + x; omega, by have := RisesTo.shift d (l := r) h.2; rw [show d + (x + 1) = d + x + 1 by omega] at this; exact this⟩
theorem putR_rises {v : Int} : ∀ {l : List Int} {lo hi : Int}, RisesTo lo l hi → lo ≤ v → v < hi → RisesTo lo (putR v l) hi
  | [], _, _, _, h1, h2 => ⟨h1, by show _ ≤ _; omega⟩
  | x :: r, lo, hi, h, h1, h2 => by
    unfold putR
    split
    · exact ⟨h.1, putR_rises (l := r) h.2 (by omega) h2⟩
    · split
      · exact h
      · exact ⟨h1, by omega, h.2⟩
theorem putR_mem {v y : Int} : ∀ {l : List Int}, y ∈ putR v l ↔ y = v ∨ y ∈ l
  | [] => by simp [putR]
  | x :: r => by
    unfold putR
    split
    · rw [List.mem_cons, putR_mem (l := r), List.mem_cons]
      constructor
      · rintro (h | h | h)
        · exact .inr (.inl h)
        · exact .inl h
        · exact .inr (.inr h)
      · rintro (h | h | h)
        · exact .inr (.inl h)
        · exact .inl h
        · exact .inr (.inr h)
    · split
      · rename_i h1 h2
        constructor
        · intro h; exact .inr h
        · rintro (h | h)
          · rw [h, ← h2]; simp
          · exact h
      · rw [List.mem_cons]
theorem placesS_mem {y : Int} : ∀ {l : List SymV} {out : List Int}, y ∈ placesS l out ↔ y ∈ out ∨ ∃ s ∈ l, s.exp = true ∧ s.off = y
  | [], out => by simp [placesS]
  | s :: r, out => by
    unfold placesS
    rw [placesS_mem (l := r)]
    by_cases h : s.exp = true
    · rw [if_pos h, putR_mem]
      constructor
      · rintro ((h1 | h1) | ⟨t, h1, h2⟩)
        · exact .inr ⟨s, by simp, h, h1.symm⟩
        · exact .inl h1
        · exact .inr ⟨t, by simp [h1], h2⟩
      · rintro (h1 | ⟨t, h1, h2, h3⟩)
        · exact .inl (.inr h1)
        · rcases List.mem_cons.1 h1 with rfl | h4
          · exact .inl (.inl h3.symm)
          · exact .inr ⟨t, h4, h2, h3⟩
    · rw [if_neg h]
      constructor
      · rintro (h1 | ⟨t, h1, h2⟩)
        · exact .inl h1
        · exact .inr ⟨t, by simp [h1], h2⟩
      · rintro (h1 | ⟨t, h1, h2, h3⟩)
        · exact .inl h1
        · rcases List.mem_cons.1 h1 with rfl | h4
          · exact absurd h2 h
          · exact .inr ⟨t, h4, h2, h3⟩
theorem placesS_rises {lo hi : Int} : ∀ {l : List SymV} {out : List Int}, RisesTo lo out hi → (∀ s ∈ l, s.exp = true → lo ≤ s.off ∧ s.off < hi) → RisesTo lo (placesS l out) hi
  | [], _, h, _ => h
  | s :: r, out, h, hs => by
    unfold placesS
    refine placesS_rises ?_ (fun t ht => hs t (by simp [ht]))
    split
    · rename_i he
      have := hs s (by simp) he
      exact putR_rises h this.1 this.2
    · exact h
/-! ### What an object that may be has -/
theorem ite_zero {p : Prop} [Decidable p] {a b : Int} (h : (if p then a else b) = 0) (ha : a ≠ 0) : ¬ p ∧ b = 0 := by
  by_cases c : p
  · rw [if_pos c] at h; exact absurd h ha
  · rw [if_neg c] at h; exact ⟨c, h⟩
structure ObjMore (o : ObjV) : Prop where
  name : goodB o.name = true
  code : o.code.length ≤ 16384 ∧ o.code.length % 4 = 0
  data : o.data.length ≤ 16384 ∧ o.data.length % 16 = 0
  sym : ∀ k, k < o.syms.length → symE o k = 0
  rel : ∀ k, k < o.rels.length → relE o k = 0
theorem objW_more {o : ObjV} (h : (objW o).2.2 = 0) : ObjMore o := by
  unfold objW at h
  by_cases h1 : goodB o.name = false
  · rw [if_pos h1] at h; cases h
  rw [if_neg h1] at h
  by_cases h2 : o.code.length > 16384
  · rw [if_pos h2] at h; cases h
  rw [if_neg h2] at h
  by_cases h3 : o.code.length % 4 ≠ 0
  · rw [if_pos h3] at h; cases h
  rw [if_neg h3] at h
  by_cases h4 : o.data.length > 16384
  · rw [if_pos h4] at h; cases h
  rw [if_neg h4] at h
  by_cases h5 : o.data.length % 16 ≠ 0
  · rw [if_pos h5] at h; cases h
  rw [if_neg h5] at h
  by_cases h6 : o.syms.length > 256
  · rw [if_pos h6] at h; cases h
  rw [if_neg h6] at h
  cases h7 : firstE (symE o) o.syms.length 0 with
  | some x => rw [h7] at h; exact absurd h (first_some _ _ _ _ h7)
  | none =>
    rw [h7] at h
    simp only at h
    by_cases h8 : o.rels.length > 256
    · rw [if_pos h8] at h; cases h
    rw [if_neg h8] at h
    cases h9 : firstE (relE o) o.rels.length 0 with
    | some x => rw [h9] at h; exact absurd h (first_some _ _ _ _ h9)
    | none => exact ⟨by simpa using h1, by omega, by omega, firstE_zero h7, firstE_zero h9⟩
theorem ObjMore.symOff {o : ObjV} (h : ObjMore o) {s : SymV} (hs : s ∈ o.syms) : s.off ≤ secL o s.data ∧ (s.exp = true → s.data = false ∧ s.off % 4 = 0 ∧ s.off < o.code.length) := by
  obtain ⟨k, hk, rfl⟩ := List.mem_iff_getElem.1 hs
  have e := h.sym k hk
  unfold symE at e
  rw [List.getElem?_eq_getElem hk] at e
  dsimp only at e
  obtain ⟨_, e⟩ := ite_zero e (by decide)
  obtain ⟨_, e⟩ := ite_zero e (by decide)
  obtain ⟨h3, e⟩ := ite_zero e (by decide)
  obtain ⟨h4, e⟩ := ite_zero e (by decide)
  obtain ⟨h5, e⟩ := ite_zero e (by decide)
  obtain ⟨h6, e⟩ := ite_zero e (by decide)
  refine ⟨by omega, fun he => ?_⟩
  rw [he] at h4 h5 h6
  have hd : o.syms[k].data = false := by simpa using h4
  rw [hd] at h3 h6
  refine ⟨hd, by simpa using h5, ?_⟩
  have h7 : ¬ o.syms[k].off = (secL o false : Int) := by simpa using h6
  have h8 : secL o false = o.code.length := rfl
  rw [h8] at h3 h7
  omega
theorem findS_mem {n : ByteArray} {s : SymV} : ∀ {l : List SymV}, findS l n = some s → s ∈ l ∧ s.name = n
  | [], h => by cases h
  | t :: r, h => by
    unfold findS at h
    split at h
    · rename_i e; cases h; exact ⟨by simp, e⟩
    · have := findS_mem (l := r) h; exact ⟨by simp [this.1], this.2⟩
theorem places_rises {o : ObjV} (h : ObjMore o) (hn : ∀ s ∈ o.syms, SymOk s) : RisesTo 0 (placesL o) o.code.length := by
  unfold placesL
  exact placesS_rises (show (0 : Int) ≤ _ by omega) fun s hs he => ⟨(hn s hs).1, ((h.symOff hs).2 he).2.2⟩
theorem places_mod {o : ObjV} (h : ObjMore o) {e : Int} (he : e ∈ placesL o) : e % 4 = 0 := by
  unfold placesL at he
  rw [placesS_mem] at he
  rcases he with h1 | ⟨s, hs, h1, rfl⟩
  · cases h1
  · exact ((h.symOff hs).2 h1).2.1
theorem exports_places {o : ObjV} {n : ByteArray} (h : exportsO o n = true) : (symOf o n).off ∈ placesL o := by
  unfold exportsO at h
  unfold symOf placesL
  rw [placesS_mem]
  cases hf : findS o.syms n with
  | none => rw [hf] at h; cases h
  | some s =>
    rw [hf] at h
    exact .inr ⟨s, (findS_mem hf).1, h, rfl⟩
/-- What a Rel of one that may be is. -/
structure RelMore (o : ObjV) (r : RelV) : Prop where
  kind : 1 ≤ r.kind ∧ r.kind ≤ 3
  mod : r.off % 16 = 0
  in_ : r.off + 16 ≤ o.data.length
  own : r.kind = 1 → ∃ s, findS o.syms r.name = some s ∧ bits .andNot .u16 r.perm (mostP s.data) = 0
  imp : r.kind = 2 → r.perm = 0
theorem ObjMore.relOff {o : ObjV} (h : ObjMore o) {r : RelV} (hr : r ∈ o.rels) : RelMore o r := by
  obtain ⟨k, hk, rfl⟩ := List.mem_iff_getElem.1 hr
  have e := h.rel k hk
  unfold relE at e
  rw [List.getElem?_eq_getElem hk] at e
  dsimp only at e
  obtain ⟨h1, e⟩ := ite_zero e (by decide)
  obtain ⟨_, e⟩ := ite_zero e (by decide)
  obtain ⟨h3, e⟩ := ite_zero e (by decide)
  obtain ⟨h4, e⟩ := ite_zero e (by decide)
  refine ⟨by omega, by omega, by omega, fun hk1 => ?_, fun hk2 => ?_⟩
  · rw [if_pos hk1] at e
    cases hf : findS o.syms o.rels[k].name with
    | none => rw [hf] at e; cases e
    | some s =>
      rw [hf] at e
      dsimp only at e
      obtain ⟨_, e⟩ := ite_zero e (by decide)
      obtain ⟨h6, e⟩ := ite_zero e (by decide)
      exact ⟨s, rfl, by simpa using h6⟩
  · rw [if_neg (by omega), if_pos hk2] at e
    obtain ⟨_, e⟩ := ite_zero e (by decide)
    obtain ⟨h6, e⟩ := ite_zero e (by decide)
    simpa using h6
theorem ObjMore.relNext {o : ObjV} (h : ObjMore o) {j : Nat} (hj : j + 1 < o.rels.length) : o.rels[j].off < o.rels[j + 1].off := by
  have e := h.rel (j + 1) hj
  unfold relE at e
  rw [List.getElem?_eq_getElem hj] at e
  dsimp only at e
  obtain ⟨_, e⟩ := ite_zero e (by decide)
  obtain ⟨h2, e⟩ := ite_zero e (by decide)
  rw [List.getElem?_eq_getElem (by omega : j < o.rels.length)] at h2
  simp only [decide_eq_true_eq] at h2
  omega
theorem rels_rise {o : ObjV} (h : ObjMore o) (hn : ∀ r ∈ o.rels, 0 ≤ r.off) : RisesTo 0 (o.rels.map fun r => r.off) o.data.length := by
  refine RisesTo.of_next (by omega) (fun x hx => ?_) (fun x hx => ?_) (fun j hj => ?_)
  · have hm : x ∈ o.rels.map fun r => r.off := List.mem_of_mem_head? (by rw [hx]; rfl)
    obtain ⟨r, hr, rfl⟩ := List.mem_map.1 hm
    exact hn r hr
  · obtain ⟨r, hr, rfl⟩ := List.mem_map.1 hx
    have := (h.relOff hr).in_
    omega
  · simp only [List.getElem_map]
    exact h.relNext (by simpa using hj)
end Go.Proofs.YtbmjnfnekmeegaaGreatDoor

/- The linker, plain: what is linked may be: place by place. -/
namespace Go.Proofs.YtbmjnfnekmeegaaGreatDoor
set_option linter.unusedVariables false
set_option linter.unusedSimpArgs false
open Go.RowKit
/-- What the numbers of all are. -/
structure LnkNum (m : ManV) (l : List ObjV) : Prop where
  comps : Nat32 m.comps
  shrs : Nat32 m.shrs
  syms : ∀ o ∈ l, ∀ s ∈ o.syms, SymOk s
  rels : ∀ o ∈ l, ∀ r ∈ o.rels, 0 ≤ r.off
/-- A comp's object. -/
structure CompOk (m : ManV) (l : List ObjV) (c : CompV) : Prop where
  mem : objOf l c.name ∈ l
  name : (objOf l c.name).name = c.name
  more : ObjMore (objOf l c.name)
  code : (objOf l c.name).code.length ≠ 0
  places : (placesL (objOf l c.name)).length ≤ 64
theorem LnkOk.obj_at {m : ManV} {l : List ObjV} (h : LnkOk m l) {k : Nat} (hk : k < m.comps.length) : CompOk m l m.comps[k] := by
  have e := h.comp k hk
  unfold lcompE at e
  rw [List.getElem?_eq_getElem hk] at e
  dsimp only at e
  cases hf : findO l m.comps[k].name with
  | none => rw [hf] at e; cases e
  | some o =>
    rw [hf] at e
    dsimp only at e
    have ho : objOf l m.comps[k].name = o := by unfold objOf; rw [hf]; rfl
    obtain ⟨hm, hn⟩ := find_mem hf
    by_cases h1 : o.code.length = 0
    · rw [if_pos h1] at e; cases e
    rw [if_neg h1] at e
    by_cases h2 : (placesL o).length > 64
    · rw [if_pos h2] at e; cases e
    exact ⟨by rw [ho]; exact hm, by rw [ho]; exact hn, by rw [ho]; exact objW_more (h.obj o hm).1, by rw [ho]; exact h1, by rw [ho]; omega⟩
theorem LnkOk.obj_of {m : ManV} {l : List ObjV} (h : LnkOk m l) {c : CompV} (hc : c ∈ m.comps) : CompOk m l c := by
  obtain ⟨k, hk, rfl⟩ := List.mem_iff_getElem.1 hc
  exact h.obj_at hk
theorem idx_at {n : ByteArray} : ∀ {l : List CompV} (i : Nat), hasC l n = true → ∃ j, ∃ hj : j < l.length, idxL l n i = i + j ∧ l[j].name = n
  | [], _, h => by cases h
  | c :: r, i, h => by
    unfold idxL
    by_cases e : c.name = n
    · rw [if_pos e]; exact ⟨0, by simp, by simp, e⟩
    · rw [if_neg e]
      have h2 : hasC r n = true := by unfold hasC at h ⊢; rw [List.any_cons, decide_eq_false e] at h; simpa using h
      obtain ⟨j, hj, e1, e2⟩ := idx_at (l := r) (i + 1) h2
      exact ⟨j + 1, by simpa using hj, by rw [e1]; push_cast; omega, by simpa using e2⟩
/-! ### Spans, one behind the other -/
def ChainS : Int → List SpanV → Int → Prop
  | a, [], e => a = e
  | a, s :: r, e => s.at_ = a ∧ 0 ≤ s.size ∧ s.size % 16 = 0 ∧ ChainS (a + s.size) r e
theorem ChainS.append : ∀ {l r : List SpanV} {a b c : Int}, ChainS a l b → ChainS b r c → ChainS a (l ++ r) c
  | [], _, a, b, _, h, h2 => by have h' : a = b := h; subst h'; exact h2
  | s :: l, _, _, _, _, h, h2 => ⟨h.1, h.2.1, h.2.2.1, ChainS.append (l := l) h.2.2.2 h2⟩
theorem ChainS.le : ∀ {l : List SpanV} {a e : Int}, ChainS a l e → a ≤ e
  | [], a, e, h => by have h' : a = e := h; omega
  | s :: r, _, _, h => by have := h.2.1; have := ChainS.le (l := r) h.2.2.2; omega
theorem ChainS.at : ∀ {l : List SpanV} {a e : Int}, a % 16 = 0 → ChainS a l e → ∀ k (hk : k < l.length), l[k].at_ % 16 = 0 ∧ l[k].size % 16 = 0 ∧ a ≤ l[k].at_ ∧ 0 ≤ l[k].size ∧ l[k].at_ + l[k].size ≤ e ∧ ∀ j (hj : j < k), l[j].at_ + l[j].size ≤ l[k].at_
  | [], _, _, _, _, _, hk => by cases hk
  | s :: r, a, e, ha, h, 0, _ => by
    obtain ⟨h1, h2, h3, h4⟩ := h
    have := h4.le
    exact ⟨by rw [List.getElem_cons_zero]; omega, h3, by rw [List.getElem_cons_zero]; omega, h2, by rw [List.getElem_cons_zero]; omega, fun j hj => by omega⟩
  | s :: r, a, e, ha, h, k + 1, hk => by
    obtain ⟨h1, h2, h3, h4⟩ := h
    have hk' : k < r.length := by simpa using hk
    obtain ⟨p1, p2, p3, p4, p5, p6⟩ := ChainS.at (l := r) (by omega) h4 k hk'
    simp only [List.getElem_cons_succ]
    refine ⟨p1, p2, by omega, p4, p5, fun j hj => ?_⟩
    cases j with
    | zero => rw [List.getElem_cons_zero]; omega
    | succ j => rw [List.getElem_cons_succ]; exact p6 j (by omega)
theorem chain_parts {l : List ObjV} : ∀ {cs : List CompV} {a : Int}, Sized cs → ChainS a ((lparts l cs a).flatMap fun p => [p.code, p.data, p.stack]) (lend l cs a)
  | [], _, _ => rfl
  | c :: r, a, hs => by
    unfold lparts lend
    rw [List.flatMap_cons]
    have h1 := fill_le (objOf l c.name).code.length
    have h2 := fill_le (objOf l c.name).data.length
    have h3 := hs c (by simp)
    refine ChainS.append (b := lendC l c a) ?_ (chain_parts fun x hx => hs x (by simp [hx]))
    exact ⟨rfl, h1.2.2, fill_mod _, rfl, h2.2.2, fill_mod _, rfl, by show (0 : Int) ≤ c.stack; omega, h3.1, rfl⟩
theorem chain_shares : ∀ {cs : List CompV} {a : Int}, Sized cs → ChainS a (lshares cs a) (lendS cs a)
  | [], _, _ => rfl
  | c :: r, a, hs => by
    have h3 := hs c (by simp)
    exact ⟨rfl, by show (0 : Int) ≤ c.stack; omega, h3.1, chain_shares fun x hx => hs x (by simp [hx])⟩
/-! ### How many bytes, how many Inits -/
theorem pad_len {b c : List Nat} {a : Int} (h : (b.length : Int) ≤ a) : ((padL b a c).length : Int) = a + c.length := by
  unfold padL
  rw [List.length_append, List.length_append, List.length_replicate]
  omega
theorem lbytes_len {l : List ObjV} : ∀ {cs : List CompV} {a : Int} {b : List Nat}, Sized cs → (b.length : Int) ≤ a → ((lbytes l cs a b).length : Int) ≤ lend l cs a
  | [], _, _, _, h => h
  | c :: r, a, b, hs, h => by
    unfold lbytes lend
    refine lbytes_len (fun x hx => hs x (by simp [hx])) ?_
    have h1 := fill_le (objOf l c.name).code.length
    have h2 := fill_le (objOf l c.name).data.length
    have h3 := hs c (by simp)
    have e1 := pad_len (c := (objOf l c.name).code) h
    rw [pad_len (by omega)]
    unfold lendC
    omega
theorem linits_len {m : ManV} {l : List ObjV} {ps : List PartV} {ss : List SpanV} : ∀ (cs : List CompV) (k : Nat), (linits m l ps ss cs k).length = (cs.map fun c => (objOf l c.name).rels.length).sum
  | [], _ => rfl
  | c :: r, k => by unfold linits; rw [List.length_append, List.length_map, linits_len r, List.map_cons, List.sum_cons]
theorem linits_mem {m : ManV} {l : List ObjV} {ps : List PartV} {ss : List SpanV} {x : InitV} : ∀ {cs : List CompV} {k : Nat}, x ∈ linits m l ps ss cs k → ∃ j, ∃ hj : j < cs.length, ∃ r ∈ (objOf l cs[j].name).rels, x = linit m l ps ss (k + j) (objOf l cs[j].name) r
  | [], _, h => by cases h
  | c :: q, k, h => by
    unfold linits at h
    rcases List.mem_append.1 h with h | h
    · obtain ⟨r, hr, rfl⟩ := List.mem_map.1 h
      exact ⟨0, by simp, r, hr, rfl⟩
    · obtain ⟨j, hj, r, hr, e⟩ := linits_mem (cs := q) h
      exact ⟨j + 1, by simpa using hj, r, hr, by rw [e]; simp only [List.getElem_cons_succ]; congr 1; omega⟩
theorem linit_at {m : ManV} {l : List ObjV} {ps : List PartV} {ss : List SpanV} {k : Nat} {o : ObjV} {r : RelV} : (linit m l ps ss k o r).at_ = (partAt ps k).data.at_ + r.off := by
  unfold linit
  split
  · rfl
  · split <;> rfl
theorem linits_rise {m : ManV} {l : List ObjV} {ps : List PartV} {ss : List SpanV} : ∀ {cs : List CompV} {k : Nat} {a : Int}, (∀ j (hj : j < cs.length), partAt ps ((k + j : Nat) : Int) = lpart l cs[j] (lend l (cs.take j) a)) → Sized cs → (∀ c ∈ cs, ObjMore (objOf l c.name) ∧ ∀ r ∈ (objOf l c.name).rels, 0 ≤ r.off) → RisesTo a ((linits m l ps ss cs k).map fun x => x.at_) (lend l cs a)
  | [], _, _, _, _, _ => Int.le_refl _
  | c :: q, k, a, hp, hs, ho => by
    unfold linits lend
    rw [List.map_append, List.map_map]
    have h1 := fill_le (objOf l c.name).code.length
    have h2 := fill_le (objOf l c.name).data.length
    have h3 := hs c (by simp)
    have h4 := ho c (by simp)
    have e0 : partAt ps ((k : Nat) : Int) = lpart l c a := hp 0 (by simp)
    refine RisesTo.append (b := lendC l c a) ?_ (linits_rise (fun j hj => ?_) (fun x hx => hs x (by simp [hx])) (fun x hx => ho x (by simp [hx])))
    · have h5 := RisesTo.shift (a + fillN (objOf l c.name).code.length) (rels_rise h4.1 h4.2)
      rw [List.map_map] at h5
      refine RisesTo.mono (?_ : RisesTo (a + fillN (objOf l c.name).code.length + 0) _ _) (by omega) (Int.le_refl _)
      refine RisesTo.mono ?_ (Int.le_refl _) (by unfold lendC; omega : a + fillN (objOf l c.name).code.length + (objOf l c.name).data.length ≤ lendC l c a)
      refine cast (congrArg (fun z => RisesTo _ z _) (List.map_congr_left fun r _ => ?_)) h5
      show a + fillN (objOf l c.name).code.length + r.off = (linit m l ps ss k (objOf l c.name) r).at_
      rw [linit_at, e0]
      rfl
    · have := hp (j + 1) (by simpa using hj)
      rw [show k + 1 + j = k + (j + 1) by omega, this]
      simp only [List.getElem_cons_succ, List.take_succ_cons]
      rfl
/-! ### P1902 -/
theorem firstE_none {f : Nat → Int} : ∀ (n i : Nat), (∀ j, i ≤ j → j < i + n → f j = 0) → firstE f n i = none
  | 0, _, _ => rfl
  | n + 1, i, h => by unfold firstE; rw [if_pos (h i (Nat.le_refl _) (by omega))]; exact firstE_none n (i + 1) fun j h1 h2 => h j (by omega) (by omega)
theorem firstE_all {f : Nat → Int} {n : Nat} (h : ∀ j, j < n → f j = 0) : firstE f n 0 = none := firstE_none n 0 fun j _ hj => h j (by omega)
section
variable {m : ManV} {l : List ObjV} {size : Int} (H : LnkOk m l) (N : LnkNum m l)
theorem LnkOk.sized (H : LnkOk m l) (N : LnkNum m l) : Sized m.comps ∧ Sized m.shrs := ⟨sized_all N.comps (manW_more H.man).comp, sized_all N.shrs (manW_more H.man).shr⟩
theorem lnk_spans (H : LnkOk m l) (N : LnkNum m l) : ChainS 16 (spansI (lnkI m l size)) (lwant m l) := ChainS.append (chain_parts (H.sized N).1) (chain_shares (H.sized N).2)
theorem lnk_span (H : LnkOk m l) (N : LnkNum m l) (hz : lwant m l ≤ size) (k : Nat) (hk : k < (spansI (lnkI m l size)).length) : spanE (lnkI m l size) k = 0 := by
  obtain ⟨h1, h2, h3, h4, h5, h6⟩ := (lnk_spans (size := size) H N).at (by decide) k hk
  unfold spanE
  rw [List.getElem?_eq_getElem hk]
  dsimp only
  have e : (lnkI m l size).size = size := rfl
  rw [if_neg (by omega), e, if_neg (by omega), if_neg]
  rw [List.any_eq_true]
  rintro ⟨t, ht, hm⟩
  obtain ⟨j, hj, rfl⟩ := List.mem_iff_getElem.1 ht
  rw [List.length_take] at hj
  rw [List.getElem_take] at hm
  have := h6 j (by omega)
  simp only [meetS, Bool.and_eq_true, decide_eq_true_eq] at hm
  omega
/-- Where the k-th comp begins. -/
def lbeg (m : ManV) (l : List ObjV) (k : Nat) : Int := lend l (m.comps.take k) 16
theorem lbeg_mod (H : LnkOk m l) (N : LnkNum m l) (k : Nat) : lbeg m l k % 16 = 0 := lend_mod (fun c hc => (H.sized N).1 c (List.mem_of_mem_take hc)) (by decide)
theorem lnk_part {k : Nat} (hk : k < m.comps.length) : (lnkI m l size).parts[k]? = some (lpart l m.comps[k] (lbeg m l k)) := lparts_at m.comps 16 k hk
theorem lnk_parts_len : (lnkI m l size).parts.length = m.comps.length := lparts_len m.comps 16
theorem lnk_partAt {k : Nat} (hk : k < m.comps.length) : partAt (lparts l m.comps 16) ((k : Nat) : Int) = lpart l m.comps[k] (lbeg m l k) := by
  unfold partAt
  rw [Int.toNat_natCast, List.getD_eq_getElem?_getD, lparts_at m.comps 16 k hk]
  rfl
theorem lnk_mem {p : PartV} (h : p ∈ (lnkI m l size).parts) : ∃ k, ∃ hk : k < m.comps.length, p = lpart l m.comps[k] (lbeg m l k) := by
  obtain ⟨k, hk, rfl⟩ := List.mem_iff_getElem.1 h
  have hk' : k < m.comps.length := by rw [lnk_parts_len] at hk; exact hk
  have e := lnk_part (size := size) (l := l) hk'
  rw [List.getElem?_eq_getElem hk] at e
  exact ⟨k, hk', by simpa using e⟩
theorem comps_once (H : LnkOk m l) {j k : Nat} (hj : j < k) (hk : k < m.comps.length) : m.comps[j].name ≠ m.comps[k].name := by
  have h := (sized_parts hk ((manW_more H.man).comp k hk)).2.1
  intro e
  unfold hasC at h
  rw [List.any_eq_false] at h
  refine h m.comps[j] (List.mem_iff_getElem.2 ⟨j, by rw [List.length_take]; omega, by rw [List.getElem_take]⟩) ?_
  simpa using e
theorem lnk_partE (H : LnkOk m l) (k : Nat) (hk : k < (lnkI m l size).parts.length) : partE (lnkI m l size) k = 0 := by
  have hk' : k < m.comps.length := by rw [lnk_parts_len] at hk; exact hk
  have C := H.obj_at hk'
  unfold partE
  rw [lnk_part hk']
  dsimp only
  have en : (lpart l m.comps[k] (lbeg m l k)).name = m.comps[k].name := C.name
  have h1 := (sized_parts hk' ((manW_more H.man).comp k hk')).1
  have h2 := (fill_le (objOf l m.comps[k].name).code.length).1
  have h3 := C.code
  have h4 := C.places
  rw [en, if_neg (by rw [h1]; decide), if_neg, if_neg, if_neg]
  · show ¬ ((placesL (objOf l m.comps[k].name)).map _).length > 64
    rw [List.length_map]; omega
  · show ¬ fillN (objOf l m.comps[k].name).code.length = 0
    omega
  · rw [List.any_eq_true]
    rintro ⟨q, hq, hm⟩
    obtain ⟨j, hj, rfl⟩ := List.mem_iff_getElem.1 hq
    rw [List.length_take] at hj
    rw [List.getElem_take] at hm
    have hj' : j < m.comps.length := by omega
    have e := lnk_part (size := size) (l := l) hj'
    rw [List.getElem?_eq_getElem (by rw [lnk_parts_len]; exact hj')] at e
    have e2 : (lnkI m l size).parts[j]'(by rw [lnk_parts_len]; exact hj') = lpart l m.comps[j] (lbeg m l j) := by simpa using e
    rw [e2] at hm
    have hm2 : (lpart l m.comps[j] (lbeg m l j)).name = m.comps[k].name := by simpa using hm
    have hm' : (objOf l m.comps[j].name).name = m.comps[k].name := hm2
    rw [(H.obj_at hj').name] at hm'
    exact comps_once H (by omega) hk' hm'
theorem ents_rise (H : LnkOk m l) (N : LnkNum m l) {k : Nat} (hk : k < m.comps.length) : RisesTo (lbeg m l k) (lpart l m.comps[k] (lbeg m l k)).entries (lbeg m l k + (objOf l m.comps[k].name).code.length) := by
  have C := H.obj_at hk
  have h := (places_rises C.more (N.syms _ C.mem)).shift (lbeg m l k)
  rw [show lbeg m l k + 0 = lbeg m l k by omega] at h
  exact h
theorem lnk_entE (H : LnkOk m l) (N : LnkNum m l) (k : Nat) (hk : k < (entsI (lnkI m l size)).length) : entE (lnkI m l size) k = 0 := by
  unfold entE
  rw [List.getElem?_eq_getElem hk]
  have hm := List.getElem_mem hk
  revert hm
  generalize (entsI (lnkI m l size))[k] = q
  obtain ⟨p, j⟩ := q
  intro hm
  dsimp only
  unfold entsI at hm
  rw [List.mem_flatMap] at hm
  obtain ⟨p', hp, hj⟩ := hm
  obtain ⟨j', hj', e⟩ := List.mem_map.1 hj
  cases e
  have hj := List.mem_range.1 hj'
  obtain ⟨c, hc, rfl⟩ := lnk_mem hp
  rw [List.getElem?_eq_getElem hj]
  dsimp only
  have R := ents_rise H N hc
  have C := H.obj_at hc
  have h1 := R.mem (List.getElem_mem hj)
  have h2 := fill_le (objOf l m.comps[c].name).code.length
  have h3 : (lpart l m.comps[c] (lbeg m l c)).entries[j] % 4 = 0 := by
    have hm := List.getElem_mem hj
    obtain ⟨e, he, h4⟩ := List.mem_map.1 (show (lpart l m.comps[c] (lbeg m l c)).entries[j] ∈ (placesL (objOf l m.comps[c].name)).map (fun e => lbeg m l c + e) from hm)
    have := places_mod C.more he
    have := lbeg_mod H N c
    omega
  rw [if_neg (by omega), if_neg, if_neg]
  · cases j with
    | zero => exact Bool.false_ne_true
    | succ h =>
      dsimp only
      rw [List.getElem?_eq_getElem (by omega)]
      dsimp only
      have := R.next hj
      simp only [decide_eq_true_eq]
      omega
  · have : withinS (lpart l m.comps[c] (lbeg m l c)).code (lpart l m.comps[c] (lbeg m l c)).entries[j] 1 = true := by
      simp only [withinS, Bool.and_eq_true, decide_eq_true_eq]
      show lbeg m l c ≤ _ ∧ _ ≤ lbeg m l c + fillN (objOf l m.comps[c].name).code.length
      omega
    rw [this]; decide
/-- An export's place is one of its part's. -/
theorem among_of {l : List Int} {v : Int} (h : v ∈ l) : amongI l v = true := by
  unfold amongI
  rw [List.any_eq_true]
  exact ⟨v, h, by simp⟩
theorem export_ent (H : LnkOk m l) {f n : ByteArray} (hf : hasC m.comps f = true) (hx : exportsO (objOf l f) n = true) : ∃ j, ∃ hj : j < m.comps.length, idxL m.comps f 0 = j ∧ m.comps[j].name = f ∧ amongI (lpart l m.comps[j] (lbeg m l j)).entries ((partAt (lparts l m.comps 16) (idxL m.comps f 0)).code.at_ + (symOf (objOf l f) n).off) = true := by
  obtain ⟨j, hj, e1, e2⟩ := idx_at (l := m.comps) (n := f) 0 hf
  have e3 : idxL m.comps f 0 = ((j : Nat) : Int) := by rw [e1]; simp
  refine ⟨j, hj, e3, e2, ?_⟩
  rw [e3, lnk_partAt hj]
  apply among_of
  show lbeg m l j + _ ∈ (placesL (objOf l m.comps[j].name)).map (fun e => lbeg m l j + e)
  rw [e2]
  exact List.mem_map.2 ⟨_, exports_places hx, rfl⟩
theorem lrel_ok (H : LnkOk m l) {k : Nat} (hk : k < m.comps.length) {r : RelV} (hr : r ∈ (objOf l m.comps[k].name).rels) : lrelE m m.comps[k].name r = 0 := by
  have e := H.rel k hk
  unfold lrelsE at e
  rw [List.getElem?_eq_getElem hk] at e
  dsimp only at e
  split at e
  · rename_i h
    obtain ⟨j, hj, rfl⟩ := List.mem_iff_getElem.1 hr
    have h2 := firstE_zero h j hj
    rw [List.getElem?_eq_getElem hj] at h2
    exact h2
  · cases e
theorem lnk_initE (H : LnkOk m l) (N : LnkNum m l) (k : Nat) (hk : k < (lnkI m l size).inits.length) : initE (lnkI m l size) k = 0 := by
  have hprev : prevI (lnkI m l size) k (lnkI m l size).inits[k].at_ = false := by
    unfold prevI
    cases k with
    | zero => rfl
    | succ j =>
      dsimp only
      rw [List.getElem?_eq_getElem (by omega)]
      dsimp only
      have R : RisesTo 16 ((lnkI m l size).inits.map fun x => x.at_) (lend l m.comps 16) := linits_rise (fun j hj => by rw [Nat.zero_add]; exact lnk_partAt hj) (H.sized N).1 (fun c hc => ⟨(H.obj_of hc).more, N.rels _ (H.obj_of hc).mem⟩)
      have := R.next (j := j) (by rw [List.length_map]; exact hk)
      simp only [List.getElem_map] at this
      simp only [decide_eq_false_iff_not]
      omega
  have hm := List.getElem_mem hk
  unfold initE
  rw [List.getElem?_eq_getElem hk]
  dsimp only
  revert hprev hm
  generalize (lnkI m l size).inits[k] = x
  intro hprev hm
  obtain ⟨c, hc, r, hr, rfl⟩ := linits_mem (show x ∈ linits m l (lparts l m.comps 16) (lshares m.shrs (lend l m.comps 16)) m.comps 0 from hm)
  rw [Nat.zero_add] at hprev hm ⊢
  have C := H.obj_at hc
  have R := C.more.relOff hr
  have L := lrel_ok H hc hr
  have A := lbeg_mod H N c
  have F1 := fill_le (objOf l m.comps[c].name).code.length
  have F2 := fill_le (objOf l m.comps[c].name).data.length
  have F3 := fill_mod (objOf l m.comps[c].name).code.length
  have R0 := N.rels _ C.mem r hr
  have R1 := R.mod
  have eat := linit_at (m := m) (l := l) (ps := lparts l m.comps 16) (ss := lshares m.shrs (lend l m.comps 16)) (k := c) (o := objOf l m.comps[c].name) (r := r)
  rw [lnk_partAt hc] at eat
  have eat2 : (lpart l m.comps[c] (lbeg m l c)).data.at_ = lbeg m l c + fillN (objOf l m.comps[c].name).code.length := rfl
  rw [eat2] at eat
  have ecomp : (linit m l (lparts l m.comps 16) (lshares m.shrs (lend l m.comps 16)) c (objOf l m.comps[c].name) r).comp = ((c : Nat) : Int) := by
    unfold linit
    split
    · rfl
    · split <;> rfl
  have elen : ((lnkI m l size).parts.length : Int) = m.comps.length := by rw [lnk_parts_len]
  rw [ecomp, if_neg (by rw [elen]; omega), Int.toNat_natCast, lnk_part hc]
  dsimp only
  rw [if_neg (by rw [eat]; omega), if_neg, if_neg (by rw [hprev]; decide)]
  case hnc =>
    have : withinS (lpart l m.comps[c] (lbeg m l c)).data (linit m l (lparts l m.comps 16) (lshares m.shrs (lend l m.comps 16)) c (objOf l m.comps[c].name) r).at_ 16 = true := by
      simp only [withinS, Bool.and_eq_true, decide_eq_true_eq]
      rw [eat]
      show lbeg m l c + fillN (objOf l m.comps[c].name).code.length ≤ _ ∧ _ ≤ lbeg m l c + fillN (objOf l m.comps[c].name).code.length + fillN (objOf l m.comps[c].name).data.length
      have := R.in_
      omega
    rw [this]; decide
  have K := R.kind
  by_cases k1 : r.kind = 1
  · obtain ⟨s, hs, hp⟩ := R.own k1
    have es : symOf (objOf l m.comps[c].name) r.name = s := by unfold symOf; rw [hs]; rfl
    have hso := (C.more.symOff (findS_mem hs).1).1
    have hs0 := (N.syms _ C.mem s (findS_mem hs).1).1
    have ei : linit m l (lparts l m.comps 16) (lshares m.shrs (lend l m.comps 16)) c (objOf l m.comps[c].name) r = ⟨c, lbeg m l c + fillN (objOf l m.comps[c].name).code.length + r.off, r.kind, s.data, 0, (if s.data = true then lbeg m l c + fillN (objOf l m.comps[c].name).code.length else lbeg m l c) + s.off, r.perm⟩ := by
      unfold linit
      rw [if_pos k1, es, lnk_partAt hc]
      rfl
    rw [ei]
    dsimp only
    rw [if_pos k1, if_neg (by simp), if_neg, if_neg (by simpa using hp)]
    have : withinS (if s.data = true then (lpart l m.comps[c] (lbeg m l c)).data else (lpart l m.comps[c] (lbeg m l c)).code) ((if s.data = true then lbeg m l c + fillN (objOf l m.comps[c].name).code.length else lbeg m l c) + s.off) 0 = true := by
      by_cases d : s.data = true
      · rw [if_pos d, if_pos d]
        have hl : secL (objOf l m.comps[c].name) s.data = (objOf l m.comps[c].name).data.length := by unfold secL; rw [if_pos d]
        rw [hl] at hso
        simp only [withinS, Bool.and_eq_true, decide_eq_true_eq]
        show lbeg m l c + fillN (objOf l m.comps[c].name).code.length ≤ _ ∧ _ ≤ lbeg m l c + fillN (objOf l m.comps[c].name).code.length + fillN (objOf l m.comps[c].name).data.length
        omega
      · rw [if_neg d, if_neg d]
        have hl : secL (objOf l m.comps[c].name) s.data = (objOf l m.comps[c].name).code.length := by unfold secL; rw [if_neg d]
        rw [hl] at hso
        simp only [withinS, Bool.and_eq_true, decide_eq_true_eq]
        show lbeg m l c ≤ _ ∧ _ ≤ lbeg m l c + fillN (objOf l m.comps[c].name).code.length
        omega
    rw [this]; decide
  by_cases k2 : r.kind = 2
  · have ei : linit m l (lparts l m.comps 16) (lshares m.shrs (lend l m.comps 16)) c (objOf l m.comps[c].name) r = ⟨c, lbeg m l c + fillN (objOf l m.comps[c].name).code.length + r.off, r.kind, false, idxL m.comps r.comp 0, (partAt (lparts l m.comps 16) (idxL m.comps r.comp 0)).code.at_ + (symOf (objOf l r.comp) r.name).off, r.perm⟩ := by
      unfold linit
      rw [if_neg k1, if_pos k2, lnk_partAt hc]
      rfl
    unfold lrelE at L
    rw [if_pos k2] at L
    have hany : (m.imps.any fun x => decide (x.comp = m.comps[c].name ∧ x.from_ = r.comp ∧ x.name = r.name)) = true := by
      by_cases q : (m.imps.any fun x => decide (x.comp = m.comps[c].name ∧ x.from_ = r.comp ∧ x.name = r.name)) = true
      · exact q
      · rw [if_neg q] at L; cases L
    obtain ⟨y, hy, hq⟩ := List.any_eq_true.1 hany
    simp only [decide_eq_true_eq] at hq
    obtain ⟨q1, q2, q3⟩ := hq
    obtain ⟨z, hz, rfl⟩ := List.mem_iff_getElem.1 hy
    have Z := (manW_more H.man).imp z hz
    unfold impE at Z
    rw [List.getElem?_eq_getElem hz] at Z
    dsimp only at Z
    obtain ⟨Z1, Z⟩ := ite_zero Z (by decide)
    obtain ⟨Z2, Z⟩ := ite_zero Z (by decide)
    have X := H.imp z hz
    unfold limpE at X
    rw [List.getElem?_eq_getElem hz] at X
    dsimp only at X
    have X' : exportsO (objOf l m.imps[z].from_) m.imps[z].name = true := by
      by_cases q : exportsO (objOf l m.imps[z].from_) m.imps[z].name = true
      · exact q
      · rw [if_neg q] at X; cases X
    have hh : hasC m.comps m.imps[z].from_ = true := by
      simp only [Bool.or_eq_true, Bool.not_eq_true', not_or, Bool.not_eq_false] at Z1
      exact Z1.1.2
    obtain ⟨j, hj, e1, e2, e3⟩ := export_ent H hh X'
    rw [q2, q3] at e3
    rw [q2] at e1 e2
    rw [ei]
    dsimp only
    rw [if_neg k1, if_pos k2, if_neg (by have := R.imp k2; simp [this]), e1, if_neg (by rw [elen]; omega), Int.toNat_natCast, lnk_part hj]
    rw [e1] at e3
    refine (if_neg (fun q => ?_)).trans ?_
    · have q' := e3.symm.trans q
      cases q'
    rw [if_neg]
    intro h
    have h' : j = c := by omega
    subst h'
    exact Z2 (by rw [q2, q1, e2])
  · have k3 : r.kind = 3 := by omega
    have ei : linit m l (lparts l m.comps 16) (lshares m.shrs (lend l m.comps 16)) c (objOf l m.comps[c].name) r = ⟨c, lbeg m l c + fillN (objOf l m.comps[c].name).code.length + r.off, r.kind, false, idxL m.shrs r.name 0, ((lshares m.shrs (lend l m.comps 16)).getD (idxL m.shrs r.name 0).toNat ⟨0, 0⟩).at_, grantP m (objOf l m.comps[c].name).name r.name⟩ := by
      unfold linit
      rw [if_neg k1, if_neg k2, lnk_partAt hc]
      rfl
    unfold lrelE at L
    rw [if_neg k2, if_pos k3] at L
    obtain ⟨L1, L⟩ := ite_zero L (by decide)
    obtain ⟨L2, L⟩ := ite_zero L (by decide)
    have hh : hasC m.shrs r.name = true := by simpa using L1
    obtain ⟨j, hj, e1, e2⟩ := idx_at (l := m.shrs) (n := r.name) 0 hh
    have e3 : idxL m.shrs r.name 0 = ((j : Nat) : Int) := by rw [e1]; simp
    have eln : (lnkI m l size).shares.length = m.shrs.length := lshares_len m.shrs _
    have hj2 : (lnkI m l size).shares[j]? = some ⟨lendS (m.shrs.take j) (lend l m.comps 16), m.shrs[j].stack⟩ := lshares_at m.shrs _ j hj
    have hj3 : ((lshares m.shrs (lend l m.comps 16)).getD j ⟨0, 0⟩).at_ = lendS (m.shrs.take j) (lend l m.comps 16) := by rw [List.getD_eq_getElem?_getD, lshares_at m.shrs _ j hj]; rfl
    rw [ei]
    dsimp only
    rw [if_neg k1, if_neg k2, if_pos k3, if_neg (by decide), e3, Int.toNat_natCast, hj3, hj2, if_neg (by
      rintro (h | h | h)
      · omega
      · rw [eln] at h; omega
      · simp at h), if_neg]
    rw [C.name]
    revert L2
    unfold grantP
    cases hg : m.grns.find? fun g => decide (g.comp = m.comps[c].name ∧ g.share = r.name) with
    | none => intro L2; exact absurd rfl L2
    | some g =>
      intro _
      obtain ⟨z, hz, rfl⟩ := List.mem_iff_getElem.1 (List.mem_of_find?_eq_some hg)
      have Z := (manW_more H.man).grn z hz
      unfold grnE at Z
      rw [List.getElem?_eq_getElem hz] at Z
      dsimp only at Z
      obtain ⟨_, Z⟩ := ite_zero Z (by decide)
      exact (ite_zero Z (by decide)).1
/-- P1902, plain: what is linked may be. -/
theorem lnk_may (N : LnkNum m l) {i : ImgV} (h : lnkL m l size = .ok i) : imgW i = okW := by
  obtain ⟨rfl, h1, h2, h3, h4⟩ := lnk_room h
  have H := lnkE_none.1 h1
  have S := H.sized N
  have M := manW_more H.man
  have W := lwant_ge (l := l) S.1 S.2
  have es : (lnkI m l size).size = size := rfl
  have ep := lnk_parts_len (m := m) (l := l) (size := size)
  have B : ((lnkI m l size).bytes.length : Int) ≤ size := by
    refine Int.le_trans (lbytes_len S.1 (by decide)) (Int.le_trans (lendS_le S.2) h2)
  have hi : (lnkI m l size).inits.length = relsN m l := linits_len m.comps 0
  obtain ⟨j, hj, e1, e2, e3⟩ := export_ent H M.start.1 H.start
  have est : (lnkI m l size).start = ((j : Nat) : Int) := e1
  unfold imgW
  rw [es, if_neg (by omega), if_neg (by omega), if_neg (by omega), ep, if_neg M.comps.1, if_neg (by have := M.comps.2; omega), if_neg (by rw [show (lnkI m l size).shares.length = m.shrs.length from lshares_len m.shrs _]; have := M.shrs; omega), firstE_all (lnk_span H N h2)]
  dsimp only
  rw [firstE_all (fun k hk => lnk_partE H k (by rw [ep]; exact hk))]
  dsimp only
  rw [firstE_all (lnk_entE H N)]
  dsimp only
  rw [if_neg (by rw [hi]; have := H.rels; omega), firstE_all (lnk_initE H N)]
  dsimp only
  rw [est, if_neg (by omega), Int.toNat_natCast, lnk_part hj]
  refine if_neg fun q => ?_
  have q' := e3.symm.trans q
  cases q'
end
end Go.Proofs.YtbmjnfnekmeegaaGreatDoor

/- The linker, plain: what is linked is of no great size; no error that is told is 0. -/
namespace Go.Proofs.YtbmjnfnekmeegaaGreatDoor
set_option linter.unusedVariables false
set_option linter.unusedSimpArgs false
open Go.RowKit
/-- What Link tells: nothing, or what is wrong. -/
def lnkW (m : ManV) (l : List ObjV) (size : Int) : Option LnkW := match lnkL m l size with
  | .ok _ => none
  | .error x => some x
/-- The image that is told: of what is wrong, nought. -/
def lnkV (m : ManV) (l : List ObjV) (size : Int) : ImgV := match lnkL m l size with
  | .ok i => i
  | .error _ => noImg
def LnkBad (x : LnkW) : Prop := x.2.2.2 ≠ 0 ∨ (x.2 = okW ∧ x.1.2.2 ≠ 0)
theorem firstO_some {α : Type} {f : Nat → Option α} {x : α} : ∀ (n i : Nat), firstO f n i = some x → ∃ k, f k = some x
  | 0, _, h => by cases h
  | n + 1, i, h => by
    unfold firstO at h
    cases hf : f i with
    | some a => rw [hf] at h; cases h; exact ⟨i, hf⟩
    | none => rw [hf] at h; exact firstO_some n (i + 1) h
theorem lnk_bad {m : ManV} {l : List ObjV} {size : Int} {x : LnkW} (h : lnkL m l size = .error x) : LnkBad x := by
  unfold lnkL at h
  cases h0 : lnkE m l with
  | none =>
    rw [h0] at h
    dsimp only at h
    split at h
    · cases h; exact .inr ⟨rfl, by dsimp only; decide⟩
    · split at h
      · cases h; exact .inr ⟨rfl, by dsimp only; decide⟩
      · cases h
  | some y =>
    rw [h0] at h
    cases h
    unfold lnkE at h0
    by_cases h1 : (manW m).2.2 ≠ 0
    · rw [if_pos h1] at h0; cases h0; exact .inr ⟨rfl, h1⟩
    rw [if_neg h1] at h0
    cases h2 : firstO (lobjE m l) l.length 0 with
    | some z =>
      rw [h2] at h0; cases h0
      obtain ⟨k, hk⟩ := firstO_some _ _ h2
      unfold lobjE at hk
      split at hk
      · cases hk
      · split at hk
        · rename_i c; cases hk; exact .inl c
        · split at hk
          · cases hk; exact .inr ⟨rfl, by dsimp only; decide⟩
          · split at hk
            · cases hk; exact .inr ⟨rfl, by dsimp only; decide⟩
            · cases hk
    | none =>
      rw [h2] at h0
      dsimp only at h0
      cases h3 : firstO (lcompE m l) m.comps.length 0 with
      | some z =>
        rw [h3] at h0; cases h0
        obtain ⟨k, hk⟩ := firstO_some _ _ h3
        unfold lcompE at hk
        split at hk
        · cases hk
        · split at hk
          · cases hk; exact .inr ⟨rfl, by dsimp only; decide⟩
          · split at hk
            · cases hk; exact .inr ⟨rfl, by dsimp only; decide⟩
            · split at hk
              · cases hk; exact .inr ⟨rfl, by dsimp only; decide⟩
              · cases hk
      | none =>
        rw [h3] at h0
        dsimp only at h0
        by_cases h4 : relsN m l > 512
        · rw [if_pos h4] at h0; cases h0; exact .inr ⟨rfl, by dsimp only; decide⟩
        rw [if_neg h4] at h0
        cases h5 : firstO (limpE m l) m.imps.length 0 with
        | some z =>
          rw [h5] at h0; cases h0
          obtain ⟨k, hk⟩ := firstO_some _ _ h5
          unfold limpE at hk
          split at hk
          · cases hk
          · split at hk
            · cases hk
            · cases hk; exact .inr ⟨rfl, by dsimp only; decide⟩
        | none =>
          rw [h5] at h0
          dsimp only at h0
          cases h6 : firstO (lrelsE m l) m.comps.length 0 with
          | some z =>
            rw [h6] at h0; cases h0
            obtain ⟨k, hk⟩ := firstO_some _ _ h6
            unfold lrelsE at hk
            split at hk
            · cases hk
            · split at hk
              · cases hk
              · rename_i j e he
                cases hk
                exact .inl (first_some _ _ _ _ he)
          | none =>
            rw [h6] at h0
            dsimp only at h0
            split at h0
            · cases h0; exact .inr ⟨rfl, by dsimp only; decide⟩
            · cases h0
/-- The numbers of what is linked. -/
theorem lnk_num {m : ManV} {l : List ObjV} {size : Int} (N : LnkNum m l) (NB : ∀ o ∈ l, (∀ x ∈ o.code, x < 256) ∧ (∀ x ∈ o.data, x < 256) ∧ ∀ r ∈ o.rels, 0 ≤ r.perm ∧ r.perm < 65536) (NG : ∀ g ∈ m.grns, 0 ≤ g.perm) {i : ImgV} (h : lnkL m l size = .ok i) : ImgNum i := by
  obtain ⟨rfl, h1, h2, h3, h4⟩ := lnk_room h
  have H := lnkE_none.1 h1
  have S := H.sized N
  have W := lwant_ge (l := l) S.1 S.2
  have M := imgW_may (i := lnkI m l size) (by rw [lnk_may N h]; rfl)
  have hsp : ∀ s ∈ spansI (lnkI m l size), 16 ≤ s.at_ ∧ 0 ≤ s.size ∧ s.at_ + s.size ≤ 65536 := by
    intro s hs
    obtain ⟨k, hk, rfl⟩ := List.mem_iff_getElem.1 hs
    obtain ⟨_, _, p3, p4, p5, _⟩ := (lnk_spans (size := size) H N).at (by decide) k hk
    exact ⟨p3, p4, by omega⟩
  have hpart : ∀ p ∈ (lnkI m l size).parts, (16 ≤ p.code.at_ ∧ 0 ≤ p.code.size ∧ p.code.at_ + p.code.size ≤ 65536) ∧ (16 ≤ p.data.at_ ∧ 0 ≤ p.data.size ∧ p.data.at_ + p.data.size ≤ 65536) := fun p hp =>
    ⟨hsp _ (List.mem_append_left _ (List.mem_flatMap.2 ⟨p, hp, by simp⟩)), hsp _ (List.mem_append_left _ (List.mem_flatMap.2 ⟨p, hp, by simp⟩))⟩
  have hent : ∀ p ∈ (lnkI m l size).parts, ∀ e ∈ p.entries, 0 ≤ e ∧ e ≤ 65536 := by
    intro p hp e he
    have q := hpart p hp
    obtain ⟨c, hc, rfl⟩ := lnk_mem hp
    have := (ents_rise H N hc).mem he
    have f := fill_le (objOf l m.comps[c].name).code.length
    have e1 : (lpart l m.comps[c] (lbeg m l c)).code.at_ = lbeg m l c := rfl
    have e2 : (lpart l m.comps[c] (lbeg m l c)).code.size = fillN (objOf l m.comps[c].name).code.length := rfl
    rw [e1, e2] at q
    omega
  have hin : ∀ x ∈ (lnkI m l size).inits, (0 ≤ x.at_ ∧ x.at_ ≤ 65536) ∧ (0 ≤ x.addr ∧ x.addr ≤ 65536) ∧ 0 ≤ x.perm ∧ x.perm < 65536 := by
    intro x hx
    obtain ⟨k, hk, hxe⟩ := List.mem_iff_getElem.1 hx
    have Z := M.init k hk
    have hperm : 0 ≤ x.perm ∧ x.perm < 65536 := by
      obtain ⟨c, hc, r, hr, rfl⟩ := linits_mem (show x ∈ linits m l (lparts l m.comps 16) (lshares m.shrs (lend l m.comps 16)) m.comps 0 from hx)
      have Q := (NB _ (H.obj_at hc).mem).2.2 r hr
      have R := (H.obj_at hc).more.relOff hr
      by_cases k1 : r.kind = 1
      · unfold linit; rw [if_pos k1]; exact Q
      by_cases k2 : r.kind = 2
      · unfold linit; rw [if_neg k1, if_pos k2]; exact Q
      unfold linit
      rw [if_neg k1, if_neg k2]
      show 0 ≤ grantP m _ _ ∧ grantP m _ _ < 65536
      unfold grantP
      split
      · decide
      · rename_i g hg
        obtain ⟨z, hz, rfl⟩ := List.mem_iff_getElem.1 (List.mem_of_find?_eq_some hg)
        have Z := (manW_more H.man).grn z hz
        unfold grnE at Z
        rw [List.getElem?_eq_getElem hz] at Z
        dsimp only at Z
        obtain ⟨_, Z⟩ := ite_zero Z (by decide)
        have hge := NG _ (List.getElem_mem hz)
        have := (ite_zero Z (by decide)).1
        omega
    unfold initE at Z
    rw [List.getElem?_eq_getElem hk, hxe] at Z
    dsimp only at Z
    obtain ⟨z1, Z⟩ := ite_zero Z (by decide)
    have hlt : x.comp.toNat < (lnkI m l size).parts.length := by omega
    rw [List.getElem?_eq_getElem hlt] at Z
    dsimp only at Z
    have q := hpart _ (List.getElem_mem hlt)
    obtain ⟨z2, Z⟩ := ite_zero Z (by decide)
    obtain ⟨z3, Z⟩ := ite_zero Z (by decide)
    obtain ⟨_, Z⟩ := ite_zero Z (by decide)
    have z3' : withinS (lnkI m l size).parts[x.comp.toNat].data x.at_ 16 = true := by simpa using z3
    simp only [withinS, Bool.and_eq_true, decide_eq_true_eq] at z3'
    refine ⟨by omega, ?_, hperm⟩
    by_cases k1 : x.kind = 1
    · rw [if_pos k1] at Z
      obtain ⟨_, Z⟩ := ite_zero Z (by decide)
      obtain ⟨z5, _⟩ := ite_zero Z (by decide)
      have z5' : withinS (if x.data = true then (lnkI m l size).parts[x.comp.toNat].data else (lnkI m l size).parts[x.comp.toNat].code) x.addr 0 = true := by simpa using z5
      by_cases d : x.data = true
      · rw [if_pos d] at z5'
        simp only [withinS, Bool.and_eq_true, decide_eq_true_eq] at z5'
        omega
      · rw [if_neg d] at z5'
        simp only [withinS, Bool.and_eq_true, decide_eq_true_eq] at z5'
        omega
    rw [if_neg k1] at Z
    by_cases k2 : x.kind = 2
    · rw [if_pos k2] at Z
      obtain ⟨_, Z⟩ := ite_zero Z (by decide)
      obtain ⟨z5, Z⟩ := ite_zero Z (by decide)
      obtain ⟨z6, _⟩ := ite_zero Z (by decide)
      have hlt2 : x.src.toNat < (lnkI m l size).parts.length := by omega
      rw [List.getElem?_eq_getElem hlt2] at z6
      have z6' : amongI (lnkI m l size).parts[x.src.toNat].entries x.addr = true := by simpa using z6
      unfold amongI at z6'
      obtain ⟨e, he, he2⟩ := List.any_eq_true.1 z6'
      have := hent _ (List.getElem_mem hlt2) e he
      have : e = x.addr := by simpa using he2
      omega
    · rw [if_neg k2] at Z
      by_cases k3 : x.kind = 3
      · rw [if_pos k3] at Z
        obtain ⟨_, Z⟩ := ite_zero Z (by decide)
        obtain ⟨z5, _⟩ := ite_zero Z (by decide)
        have hlt2 : x.src.toNat < (lnkI m l size).shares.length := by omega
        rw [List.getElem?_eq_getElem hlt2] at z5
        have := hsp _ (List.mem_append_right _ (List.getElem_mem hlt2))
        have z7 : (lnkI m l size).shares[x.src.toNat].at_ = x.addr := by
          by_cases c : (lnkI m l size).shares[x.src.toNat].at_ = x.addr
          · exact c
          · exact absurd (.inr (.inr (by simpa using c))) z5
        omega
      · rw [if_neg k3] at Z; exact absurd Z (by decide)
  refine ⟨⟨by show 0 ≤ size; omega, by show size < _; omega⟩, fun s hs => ?_, fun p hp e he => ?_, fun x hx => ?_, fun x hx => ?_, fun x hx => (hin x hx).2.2, ?_, ?_⟩
  · have := hsp s hs
    exact ⟨⟨by omega, by omega⟩, by omega, by omega⟩
  · have := hent p hp e he
    exact ⟨by omega, by omega⟩
  · have := (hin x hx).1
    exact ⟨by omega, by omega⟩
  · have := (hin x hx).2.1
    exact ⟨by omega, by omega⟩
  · obtain ⟨j, hj, e1, e2, e3⟩ := export_ent H (manW_more H.man).start.1 H.start
    unfold amongI at e3
    obtain ⟨e, he, he2⟩ := List.any_eq_true.1 e3
    have hm := List.mem_of_getElem? (lnk_part (size := size) (l := l) hj)
    have := hent _ hm e he
    have h8 : e = (partAt (lparts l m.comps 16) (idxL m.comps m.start.from_ 0)).code.at_ + (symOf (objOf l m.start.from_) m.start.name).off := by simpa using he2
    have h9 : e = (lnkI m l size).addr := h8
    exact ⟨by omega, by omega⟩
  · have hb : ∀ (cs : List CompV) (a : Int) (b : List Nat), (∀ c ∈ cs, objOf l c.name ∈ l) → (∀ x ∈ b, x < 256) → ∀ x ∈ lbytes l cs a b, x < 256 := by
      intro cs
      induction cs with
      | nil => intro a b _ hb; exact hb
      | cons c r ih =>
        intro a b hc hb
        unfold lbytes
        have Q := NB _ (hc c (by simp))
        have hpad : ∀ (b : List Nat) (a : Int) (c : List Nat), (∀ x ∈ b, x < 256) → (∀ x ∈ c, x < 256) → ∀ x ∈ padL b a c, x < 256 := by
          intro b a c h1 h2 x hx
          unfold padL at hx
          rcases List.mem_append.1 hx with h | h
          · exact h1 x h
          · rcases List.mem_append.1 h with h | h
            · rw [List.mem_replicate] at h; omega
            · exact h2 x h
        exact ih _ _ (fun x hx => hc x (by simp [hx])) (hpad _ _ _ (hpad _ _ _ hb Q.1) Q.2.1)
    exact hb m.comps 16 [] (fun c hc => (H.obj_of hc).mem) (by simp)
end Go.Proofs.YtbmjnfnekmeegaaGreatDoor

/- What an object exports, sorted, each once: P1901's places (plain). -/
namespace Go.Proofs.YtbmjnfnekmeegaaGreatDoor
set_option linter.unusedVariables false
set_option linter.unusedSimpArgs false
open Go.RowKit
theorem pw_ext : ∀ {l r : List Int}, l.Pairwise (· < ·) → r.Pairwise (· < ·) → (∀ x, x ∈ l ↔ x ∈ r) → l = r
  | [], [], _, _, _ => rfl
  | [], y :: r, _, _, h => absurd ((h y).2 (by simp)) (by simp)
  | x :: l, [], _, _, h => absurd ((h x).1 (by simp)) (by simp)
  | x :: l, y :: r, h1, h2, h => by
    rw [List.pairwise_cons] at h1 h2
    have e : x = y := by
      rcases List.mem_cons.1 ((h x).1 (by simp)) with a | a
      · exact a
      · rcases List.mem_cons.1 ((h y).2 (by simp)) with b | b
        · exact b.symm
        · have := h2.1 x a
          have := h1.1 y b
          omega
    subst e
    congr 1
    refine pw_ext h1.2 h2.2 fun z => ⟨fun hz => ?_, fun hz => ?_⟩
    · rcases List.mem_cons.1 ((h z).1 (by simp [hz])) with a | a
      · have := h1.1 z hz; omega
      · exact a
    · rcases List.mem_cons.1 ((h z).2 (by simp [hz])) with a | a
      · have := h2.1 z hz; omega
      · exact a
theorem RisesTo.pw : ∀ {l : List Int} {lo hi : Int}, RisesTo lo l hi → l.Pairwise (· < ·)
  | [], _, _, _ => List.Pairwise.nil
  | x :: r, lo, hi, h => List.pairwise_cons.2 ⟨fun y hy => by have := RisesTo.mem h.2 hy; omega, RisesTo.pw h.2⟩
/-- Of a row that rises: each once. -/
theorem compact_pw {d : Array Int} (hd : ∀ i j, i ≤ j → j < d.size → d[i]! ≤ d[j]!) : ∀ m, m ≤ d.size → (Lib.compactUpTo d m).Pairwise (· < ·) ∧ ∀ y, y ∈ Lib.compactUpTo d m ↔ ∃ j, j < m ∧ d[j]! = y
  | 0, _ => ⟨List.Pairwise.nil, fun y => by simp [Lib.compactUpTo]⟩
  | m + 1, hm => by
    obtain ⟨h1, h2⟩ := compact_pw hd m (by omega)
    rw [Lib.compactUpTo_succ]
    by_cases hk : Lib.keeps d m = true
    · rw [if_pos hk]
      refine ⟨List.pairwise_append.2 ⟨h1, List.pairwise_singleton _ _, fun a ha b hb => ?_⟩, fun y => ?_⟩
      · obtain rfl : b = d[m]! := by simpa using hb
        obtain ⟨j, hj, rfl⟩ := (h2 a).1 ha
        have a1 := hd j (m - 1) (by omega) (by omega)
        have a2 := hd (m - 1) m (by omega) (by omega)
        have a3 : d[m]! ≠ d[m - 1]! := by
          unfold Lib.keeps at hk
          rcases of_decide_eq_true hk with h0 | h0
          · omega
          · exact h0
        omega
      · rw [List.mem_append, h2]
        constructor
        · rintro (⟨j, hj, e⟩ | e)
          · exact ⟨j, by omega, e⟩
          · exact ⟨m, by omega, (List.mem_singleton.1 e).symm⟩
        · rintro ⟨j, hj, e⟩
          by_cases c : j < m
          · exact .inl ⟨j, c, e⟩
          · obtain rfl : j = m := by omega
            exact .inr (List.mem_singleton.2 e.symm)
    · rw [if_neg hk, List.append_nil]
      refine ⟨h1, fun y => ?_⟩
      rw [h2]
      constructor
      · rintro ⟨j, hj, e⟩; exact ⟨j, by omega, e⟩
      · rintro ⟨j, hj, e⟩
        by_cases c : j < m
        · exact ⟨j, c, e⟩
        · obtain rfl : j = m := by omega
          have hk' : ¬ (j = 0 ∨ d[j]! ≠ d[j - 1]!) := by
            unfold Lib.keeps at hk
            simpa using hk
          have h0 : j ≠ 0 := fun h => hk' (.inl h)
          have hq : d[j]! = d[j - 1]! := by
            apply Classical.byContradiction
            intro h
            exact hk' (.inr h)
          exact ⟨j - 1, by omega, by rw [← hq]; exact e⟩
/-- What is exported, in the order of the symbols. -/
def offsS (l : List SymV) : List Int := (l.filter fun s => s.exp).map fun s => s.off
def offsL (o : ObjV) : List Int := offsS o.syms
def sortI (l : List Int) : List Int := l.mergeSort fun x y => decide (x ≤ y)
theorem sortI_length (l : List Int) : (sortI l).length = l.length := (List.mergeSort_perm l _).length_eq
theorem sortI_mem {l : List Int} {x : Int} : x ∈ sortI l ↔ x ∈ l := (List.mergeSort_perm l _).mem_iff
theorem sortI_rises (l : List Int) : ∀ i j, i ≤ j → j < (sortI l).toArray.size → (sortI l).toArray[i]! ≤ (sortI l).toArray[j]! := by
  have hp : (sortI l).Pairwise fun x y => decide (x ≤ y) = true := List.pairwise_mergeSort (fun a b c h1 h2 => by simp only [decide_eq_true_eq] at *; omega) (fun a b => by simp only [Bool.or_eq_true, decide_eq_true_eq]; omega) l
  intro i j hij hj
  have hj' : j < (sortI l).length := by simpa using hj
  rw [getElem!_pos _ i (by omega), getElem!_pos _ j hj]
  rcases Nat.lt_or_ge i j with c | c
  · have := List.pairwise_iff_getElem.1 hp i j (by omega) hj' c
    simpa using this
  · obtain rfl : i = j := by omega
    exact Int.le_refl _
theorem places_sort (o : ObjV) (h : ∀ s ∈ o.syms, 0 ≤ s.off ∧ s.off < 4294967296) : Lib.compactUpTo (sortI (offsL o)).toArray (sortI (offsL o)).toArray.size = placesL o := by
  obtain ⟨h1, h2⟩ := compact_pw (sortI_rises (offsL o)) _ (Nat.le_refl _)
  refine pw_ext h1 (placesS_rises (lo := 0) (hi := 4294967296) (show RisesTo 0 [] 4294967296 by show (0 : Int) ≤ _; decide) fun s hs _ => h s hs).pw fun x => ?_
  rw [h2]
  unfold placesL
  rw [placesS_mem]
  have hm : (∃ j, j < (sortI (offsL o)).toArray.size ∧ (sortI (offsL o)).toArray[j]! = x) ↔ x ∈ sortI (offsL o) := by
    rw [List.mem_iff_getElem]
    constructor
    · rintro ⟨j, hj, e⟩
      refine ⟨j, by simpa using hj, ?_⟩
      rw [getElem!_pos _ j hj] at e
      simpa using e
    · rintro ⟨j, hj, e⟩
      refine ⟨j, by simpa using hj, ?_⟩
      rw [getElem!_pos _ j (by simpa using hj)]
      simpa using e
  rw [hm, sortI_mem]
  unfold offsL offsS
  rw [List.mem_map]
  constructor
  · rintro ⟨s, hs, rfl⟩
    rw [List.mem_filter] at hs
    exact .inr ⟨s, hs.1, hs.2, rfl⟩
  · rintro (h0 | ⟨s, hs, he, rfl⟩)
    · cases h0
    · exact ⟨s, List.mem_filter.2 ⟨hs, he⟩, rfl⟩
theorem offsS_length (l : List SymV) : (offsS l).length ≤ l.length := by
  unfold offsS
  rw [List.length_map]
  exact List.length_filter_le _ _
end Go.Proofs.YtbmjnfnekmeegaaGreatDoor
