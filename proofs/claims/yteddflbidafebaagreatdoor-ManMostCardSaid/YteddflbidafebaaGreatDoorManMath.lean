/- Manifests, plain: the texts of ManMost, of known; what they are. -/
import Derived.Test.YteddflbidafebaaGreatDoorManTab
namespace Go.Proofs.YteddflbidafebaaGreatDoor
set_option linter.unusedVariables false
set_option linter.unusedSimpArgs false
open Go.RowKit
/-! ### Splitting -/
theorem splitB_cons {c : UInt8} : ∀ (p : List UInt8) (r : List UInt8), (∀ x ∈ p, x ≠ c) → splitB c (p ++ c :: r) = p :: splitB c r
  | [], r, _ => by simp [splitB]
  | x :: p, r, h => by
    have hx : x ≠ c := h x (by simp)
    have ih := splitB_cons p r (fun y hy => h y (by simp [hy]))
    simp only [List.cons_append, splitB, if_neg hx, ih]
theorem splitB_one {c : UInt8} : ∀ (p : List UInt8), (∀ x ∈ p, x ≠ c) → splitB c p = [p]
  | [], _ => rfl
  | x :: p, h => by
    have hx : x ≠ c := h x (by simp)
    have ih := splitB_one p (fun y hy => h y (by simp [hy]))
    simp only [splitB, if_neg hx, ih]
theorem splitB_some {c : UInt8} (s : List UInt8) : ∃ p q, splitB c s = p :: q := by
  cases s with
  | nil => exact ⟨_, _, rfl⟩
  | cons x r =>
    simp only [splitB]
    split
    · exact ⟨_, _, rfl⟩
    · split <;> exact ⟨_, _, rfl⟩
/-- One line more. -/
theorem mlines_step {p r : List UInt8} {n : Nat} {m m' : ManV} {ph ph' : Nat} (hp : ∀ x ∈ p, x ≠ 10) (h : mlineP (splitB 32 p) m ph = .ok (m', ph')) : mlinesP (splitB 10 (p ++ 10 :: r)) n m ph = mlinesP (splitB 10 r) (n + 1) m' ph' := by
  rw [splitB_cons p r hp]
  obtain ⟨a, q, e⟩ := splitB_some (c := 10) r
  rw [e]
  have e2 : mlinesP (p :: a :: q) n m ph = (match mlineP (splitB 32 p) m ph with
    | .error e => (.error (mlineT, (n : Int), e) : Except WrV ManV)
    | .ok (m', ph') => mlinesP (a :: q) (n + 1) m' ph') := rfl
  rw [e2, h]
/-! ### Decimals -/
def foldD (l : List UInt8) : Nat := l.foldl (fun n c => 10 * n + (c.toNat - 48)) 0
theorem foldD_snoc (l : List UInt8) (c : UInt8) : foldD (l ++ [c]) = 10 * foldD l + (c.toNat - 48) := by
  unfold foldD
  rw [List.foldl_append]
  rfl
theorem digit_val {d : Nat} (h : d < 10) : (UInt8.ofNat (48 + d)).toNat = 48 + d := by rw [UInt8.toNat_ofNat']; omega
/-- What the digits of a number are. -/
structure DigsOf (n : Nat) (l : List UInt8) : Prop where
  ne : l ≠ []
  val : foldD l = n
  dig : ∀ c ∈ l, 48 ≤ c.toNat ∧ c.toNat ≤ 57
  lead : l.head? = some 48 → l.length = 1
  pos : 0 < n → l.head? ≠ some 48
theorem DigsOf.last {n : Nat} (h : n < 10) : DigsOf n [UInt8.ofNat (48 + n)] := by
  refine ⟨by simp, ?_, ?_, fun _ => rfl, ?_⟩
  · unfold foldD; simp only [List.foldl_cons, List.foldl_nil, digit_val h]; omega
  · intro c hc
    simp only [List.mem_singleton] at hc
    subst hc
    rw [digit_val h]; omega
  · intro hp e
    simp only [List.head?_cons, Option.some.injEq] at e
    have := congrArg UInt8.toNat e
    rw [digit_val h] at this
    have e2 : (48 : UInt8).toNat = 48 := rfl
    omega
theorem DigsOf.step {n : Nat} (h : 10 ≤ n) {l : List UInt8} (hl : DigsOf (n / 10) l) : DigsOf n (l ++ [UInt8.ofNat (48 + n % 10)]) := by
  have hd : n % 10 < 10 := Nat.mod_lt _ (by decide)
  have hq : 0 < n / 10 := by omega
  have hh : ∀ x, (l ++ [x]).head? = l.head? := fun x => by
    cases l with
    | nil => exact absurd rfl hl.ne
    | cons a r => rfl
  refine ⟨by simp, ?_, ?_, ?_, ?_⟩
  · rw [foldD_snoc, hl.val, digit_val hd]; omega
  · intro c hc
    rcases List.mem_append.1 hc with hc | hc
    · exact hl.dig c hc
    · simp only [List.mem_singleton] at hc
      subst hc
      rw [digit_val hd]; omega
  · intro e
    rw [hh] at e
    exact absurd e (hl.pos hq)
  · intro _
    rw [hh]
    exact hl.pos hq
theorem DigsOf.num {n : Nat} {l : List UInt8} (h : DigsOf n l) (hn : n < 4294967296) : numD l = .ok n := by
  unfold numD
  have hv := h.val
  unfold foldD at hv
  rw [hv]
  have h1 : ¬ (l = [] ∨ (l.head? = some 48 ∧ 1 < l.length) ∨ (l.all fun c => lxDigit c.toNat) = false) := by
    rintro (e | ⟨e, e2⟩ | e)
    · exact h.ne e
    · have := h.lead e; omega
    · have : (l.all fun c => lxDigit c.toNat) = true := by
        rw [List.all_eq_true]
        intro c hc
        have := h.dig c hc
        simp only [lxDigit, Bool.and_eq_true, decide_eq_true_eq]
        omega
      rw [this] at e; cases e
  rw [if_neg h1, if_neg (by omega)]
theorem DigsOf.no {n : Nat} {l : List UInt8} (h : DigsOf n l) : (∀ x ∈ l, x ≠ 10) ∧ (∀ x ∈ l, x ≠ 32) ∧ l.isEmpty = false := by
  refine ⟨fun x hx e => ?_, fun x hx e => ?_, ?_⟩
  · have := (h.dig x hx).1
    subst e
    exact absurd this (by decide)
  · have := (h.dig x hx).1
    subst e
    exact absurd this (by decide)
  · cases l with
    | nil => exact absurd rfl h.ne
    | cons a r => rfl
theorem decF_digs : ∀ (f n : Nat), n < 10 ^ f → 0 < f → DigsOf n (decF f n)
  | 0, _, _, h => absurd h (by decide)
  | f + 1, n, h, _ => by
    unfold decF
    by_cases hn : n < 10
    · rw [if_pos hn]; exact DigsOf.last hn
    · rw [if_neg hn]
      have hf : 0 < f := by
        rcases Nat.eq_zero_or_pos f with rfl | hf
        · simp at h; omega
        · exact hf
      exact DigsOf.step (by omega) (decF_digs f (n / 10) (by rw [Nat.pow_succ] at h; omega) hf)
/-! ### The text of ManMost -/
def ltr (i : Nat) : UInt8 := UInt8.ofNat (97 + i)
def cmpN (i : Nat) : List UInt8 := [99, ltr i]
def shrN (i : Nat) : List UInt8 := [115, ltr i]
def cmpLn (D : List UInt8) (i : Nat) : List UInt8 := compT.data.toList ++ 32 :: (cmpN i ++ 32 :: D)
def shrLn (i : Nat) : List UInt8 := shareT.data.toList ++ 32 :: (shrN i ++ [32, 49, 54])
def staLn : List UInt8 := [115, 116, 97, 114, 116, 32, 99, 97, 32, 102]
/-- k lines of comps, from the j-th on. -/
def cmpTx (D : List UInt8) : Nat → Nat → List UInt8
  | _, 0 => []
  | j, k + 1 => cmpLn D j ++ 10 :: cmpTx D (j + 1) k
def shrTx : Nat → Nat → List UInt8
  | _, 0 => []
  | j, k + 1 => shrLn j ++ 10 :: shrTx (j + 1) k
def mostT (D : List UInt8) (a b : Nat) : List UInt8 := cmpTx D 0 a ++ (shrTx 0 b ++ (staLn ++ [10]))
def cmpVs (n : Int) (j k : Nat) : List CompV := (List.range' j k).map fun i => ⟨bsL (cmpN i), n⟩
def shrVs (j k : Nat) : List CompV := (List.range' j k).map fun i => ⟨bsL (shrN i), 16⟩
def mostM (n : Int) (a b : Nat) : ManV := ⟨cmpVs n 0 a, [], shrVs 0 b, [], ⟨⟨#[]⟩, bsL [99, 97], bsL [102]⟩⟩
theorem ltr_no {i : Nat} (h : i < 26) : ltr i ≠ 10 ∧ ltr i ≠ 32 := by
  have e : (ltr i).toNat = 97 + i := by unfold ltr; rw [UInt8.toNat_ofNat']; omega
  refine ⟨fun x => ?_, fun x => ?_⟩
  · have := congrArg UInt8.toNat x
    rw [e] at this
    have e2 : (10 : UInt8).toNat = 10 := rfl
    omega
  · have := congrArg UInt8.toNat x
    rw [e] at this
    have e2 : (32 : UInt8).toNat = 32 := rfl
    omega
theorem cmp_words {D : List UInt8} {n i : Nat} (hD : DigsOf n D) (hi : i < 26) : splitB 32 (cmpLn D i) = [compT.data.toList, cmpN i, D] ∧ ∀ x ∈ cmpLn D i, x ≠ 10 := by
  obtain ⟨d1, d2, _⟩ := hD.no
  obtain ⟨l1, l2⟩ := ltr_no hi
  have hc : ∀ x ∈ cmpN i, x ≠ 32 := by
    intro x hx
    simp only [cmpN, List.mem_cons, List.not_mem_nil, or_false] at hx
    rcases hx with rfl | rfl
    · decide
    · exact l2
  refine ⟨?_, ?_⟩
  · unfold cmpLn
    rw [splitB_cons _ _ (by decide), splitB_cons _ _ hc, splitB_one _ d2]
  · intro x hx
    unfold cmpLn at hx
    simp only [List.mem_append, List.mem_cons, cmpN, List.not_mem_nil, or_false] at hx
    rcases hx with hx | rfl | (rfl | rfl) | rfl | hx
    · revert x; decide
    · decide
    · decide
    · exact l1
    · decide
    · exact d1 x hx
theorem shr_words {i : Nat} (hi : i < 26) : splitB 32 (shrLn i) = [shareT.data.toList, shrN i, [49, 54]] ∧ ∀ x ∈ shrLn i, x ≠ 10 := by
  obtain ⟨l1, l2⟩ := ltr_no hi
  have hc : ∀ x ∈ shrN i, x ≠ 32 := by
    intro x hx
    simp only [shrN, List.mem_cons, List.not_mem_nil, or_false] at hx
    rcases hx with rfl | rfl
    · decide
    · exact l2
  refine ⟨?_, ?_⟩
  · unfold shrLn
    rw [splitB_cons _ _ (by decide), splitB_cons _ _ hc, splitB_one _ (by decide)]
  · intro x hx
    unfold shrLn at hx
    simp only [List.mem_append, List.mem_cons, shrN, List.not_mem_nil, or_false] at hx
    rcases hx with hx | rfl | (rfl | rfl) | rfl | rfl | rfl
    · revert x; decide
    · decide
    · decide
    · exact l1
    · decide
    · decide
    · decide
theorem cmps_run {D : List UInt8} {n : Nat} (hD : DigsOf n D) (hn : n < 4294967296) : ∀ (k j : Nat) (R : List UInt8) (N : Nat) (m : ManV) (ph : Nat), ph ≤ 1 → j + k ≤ 26 → mlinesP (splitB 10 (cmpTx D j k ++ R)) N m ph = mlinesP (splitB 10 R) (N + k) { m with comps := m.comps ++ cmpVs n j k } (if k = 0 then ph else 1)
  | 0, j, R, N, m, ph, _, _ => by simp [cmpTx, cmpVs]
  | k + 1, j, R, N, m, ph, hp, hj => by
    obtain ⟨hw, h10⟩ := cmp_words (i := j) hD (by omega)
    have hl : mlineP (splitB 32 (cmpLn D j)) m ph = .ok ({ m with comps := m.comps ++ [⟨bsL (cmpN j), n⟩] }, 1) := by
      rw [hw]
      unfold mlineP
      simp only
      rw [if_pos ⟨rfl, hp⟩, hD.num hn]
    show mlinesP (splitB 10 ((cmpLn D j ++ 10 :: cmpTx D (j + 1) k) ++ R)) N m ph = _
    rw [List.append_assoc, List.cons_append, mlines_step h10 hl, cmps_run hD hn k (j + 1) R (N + 1) _ 1 (Nat.le_refl _) (by omega)]
    have e1 : N + 1 + k = N + (k + 1) := by omega
    have e2 : (if k = 0 then 1 else 1) = 1 := by split <;> rfl
    rw [e1, e2, if_neg (by omega : ¬ k + 1 = 0)]
    congr 1
    simp [cmpVs, List.range'_succ]
theorem shrs_run : ∀ (k j : Nat) (R : List UInt8) (N : Nat) (m : ManV) (ph : Nat), ph ≤ 3 → j + k ≤ 26 → mlinesP (splitB 10 (shrTx j k ++ R)) N m ph = mlinesP (splitB 10 R) (N + k) { m with shrs := m.shrs ++ shrVs j k } (if k = 0 then ph else 3)
  | 0, j, R, N, m, ph, _, _ => by simp [shrTx, shrVs]
  | k + 1, j, R, N, m, ph, hp, hj => by
    obtain ⟨hw, h10⟩ := shr_words (i := j) (by omega)
    have hl : mlineP (splitB 32 (shrLn j)) m ph = .ok ({ m with shrs := m.shrs ++ [⟨bsL (shrN j), 16⟩] }, 3) := by
      rw [hw]
      unfold mlineP
      simp only
      have h16 : numD [49, 54] = .ok 16 := rfl
      rw [if_neg (by rintro ⟨e, _⟩; exact absurd e (by decide +kernel)), if_pos ⟨rfl, hp⟩, h16]
      rfl
    show mlinesP (splitB 10 ((shrLn j ++ 10 :: shrTx (j + 1) k) ++ R)) N m ph = _
    rw [List.append_assoc, List.cons_append, mlines_step h10 hl, shrs_run k (j + 1) R (N + 1) _ 3 (Nat.le_refl _) (by omega)]
    have e1 : N + 1 + k = N + (k + 1) := by omega
    have e2 : (if k = 0 then 3 else 3) = 3 := by split <;> rfl
    rw [e1, e2, if_neg (by omega : ¬ k + 1 = 0)]
    congr 1
    simp [shrVs, List.range'_succ]
/-- What the text of ManMost tells, not asking whether that may be. -/
theorem most_lines {D : List UInt8} {n : Nat} (hD : DigsOf n D) (hn : n < 4294967296) (a b : Nat) (ha : 0 < a) (ha2 : a ≤ 26) (hb : b ≤ 26) : mlinesP (splitB 10 (mostT D a b)) 0 noMan 0 = .ok (mostM n a b) := by
  unfold mostT
  rw [cmps_run hD hn a 0 _ 0 noMan 0 (by omega) (by omega), if_neg (by omega : ¬ a = 0), shrs_run b 0 _ _ _ 1 (by omega) (by omega)]
  have hl : ∀ (m : ManV) (ph : Nat), ph ≤ 4 → mlineP (splitB 32 staLn) m ph = .ok ({ m with start := ⟨⟨#[]⟩, bsL [99, 97], bsL [102]⟩ }, 5) := fun m ph hp => by
    have hw : splitB 32 staLn = [mstartT.data.toList, [99, 97], [102]] := by decide +kernel
    rw [hw]
    unfold mlineP
    simp only
    rw [if_neg (by rintro ⟨e, _⟩; exact absurd e (by decide +kernel)), if_neg (by rintro ⟨e, _⟩; exact absurd e (by decide +kernel)), if_pos ⟨rfl, hp⟩]
  rw [mlines_step (p := staLn) (r := []) (by decide) (hl _ _ (by split <;> omega))]
  show (if ([] : List UInt8) ≠ [] ∨ 5 ≠ 5 then _ else Except.ok _) = _
  rw [if_neg (by simp)]
  simp [mostM, noMan]
/-! ### What of it is wrong -/
theorem firstE_zero {f : Nat → Int} : ∀ (n i : Nat), (∀ j, i ≤ j → j < i + n → f j = 0) → firstE f n i = none
  | 0, _, _ => rfl
  | n + 1, i, h => by
    unfold firstE
    rw [if_pos (h i (Nat.le_refl _) (by omega))]
    exact firstE_zero n (i + 1) fun j h1 h2 => h j (by omega) (by omega)
theorem ltr_inj {i j : Nat} (hi : i < 26) (hj : j < 26) (h : ltr i = ltr j) : i = j := by
  have := congrArg UInt8.toNat h
  unfold ltr at this
  rw [UInt8.toNat_ofNat', UInt8.toNat_ofNat'] at this
  omega
theorem bsL_inj {a b : List UInt8} (h : bsL a = bsL b) : a = b := by
  have := congrArg (fun s : ByteArray => s.data.toList) h
  simpa [bsL] using this
theorem sized_row {c : UInt8} {z : Int} {a i : Nat} (hi : i < a) (ha : a ≤ 26) : sizedAt ((List.range' 0 a).map fun i => ⟨bsL [c, ltr i], z⟩) i = sizedE (bsL [c, ltr i]) false z := by
  unfold sizedAt
  have e : ((List.range' 0 a).map fun i => (⟨bsL [c, ltr i], z⟩ : CompV))[i]? = some ⟨bsL [c, ltr i], z⟩ := by
    rw [List.getElem?_map, List.getElem?_range' hi]
    simp
  rw [e]
  have h : hasC (((List.range' 0 a).map fun i => (⟨bsL [c, ltr i], z⟩ : CompV)).take i) (bsL [c, ltr i]) = false := by
    unfold hasC
    rw [List.any_eq_false]
    intro x hx
    rw [← List.map_take, List.mem_map] at hx
    obtain ⟨j, hj, rfl⟩ := hx
    have hji : j < i := by
      obtain ⟨k, hk, e⟩ := List.mem_take_iff_getElem.1 hj
      rw [List.getElem_range'] at e
      omega
    simp only [decide_eq_true_eq]
    intro e
    have e2 := bsL_inj e
    simp only [List.cons.injEq, and_true, true_and] at e2
    have := ltr_inj (by omega) (by omega) e2
    omega
  simp only [h]
theorem cmp_good : ∀ i, i < 12 → goodB (bsL [99, ltr i]) = true := by decide +kernel
theorem shr_good : ∀ i, i < 12 → goodB (bsL [115, ltr i]) = true := by decide +kernel
theorem sizedE_good {n : ByteArray} {z : Int} (hg : goodB n = true) (h1 : z % 16 = 0) : sizedE n false z = if z = 0 ∨ 4096 < z then 14 else 0 := by
  unfold sizedE
  rw [if_neg (by rw [hg]; decide), if_neg (by decide), if_neg (by omega)]
theorem most_lens (n : Int) (a b : Nat) : (mostM n a b).comps.length = a ∧ (mostM n a b).shrs.length = b := by simp [mostM, cmpVs, shrVs]
theorem most_a {n : Int} {a b : Nat} (ha : 8 < a) : manW (mostM n a b) = (compsT, (a : Int), 15) := by
  unfold manW
  rw [(most_lens n a b).1, if_neg (by omega), if_pos ha]
theorem most_n {n : Int} {a b : Nat} (h0 : 0 < a) (ha : a ≤ 8) (h16 : n % 16 = 0) (hn : n = 0 ∨ 4096 < n) : manW (mostM n a b) = (compT, 0, 14) := by
  have hf : firstE (sizedAt (mostM n a b).comps) a 0 = some (0, 14) := by
    obtain ⟨k, rfl⟩ : ∃ k, a = k + 1 := ⟨a - 1, by omega⟩
    have e : sizedAt (mostM n (k + 1) b).comps 0 = 14 := by
      have := sized_row (c := 99) (z := n) (a := k + 1) (i := 0) (by omega) (by omega)
      rw [sizedE_good (cmp_good 0 (by decide)) h16, if_pos hn] at this
      exact this
    unfold firstE
    rw [if_neg (by rw [e]; decide), e]
  unfold manW
  rw [(most_lens n a b).1, if_neg (by omega), if_neg (by omega), hf]
  rfl
theorem most_cs {n : Int} {a b : Nat} (ha : a ≤ 8) (h16 : n % 16 = 0) (hn : ¬ (n = 0 ∨ 4096 < n)) : firstE (sizedAt (mostM n a b).comps) a 0 = none :=
  firstE_zero _ _ fun j _ h2 => by
    have := sized_row (c := 99) (z := n) (a := a) (i := j) (by omega) (by omega)
    rw [sizedE_good (cmp_good j (by omega)) h16, if_neg hn] at this
    exact this
theorem most_ss {n : Int} {a b : Nat} (hb : b ≤ 8) : firstE (sizedAt (mostM n a b).shrs) b 0 = none :=
  firstE_zero _ _ fun j _ h2 => by
    have := sized_row (c := 115) (z := 16) (a := b) (i := j) (by omega) (by omega)
    rw [sizedE_good (shr_good j (by omega)) (by decide), if_neg (by decide)] at this
    exact this
theorem most_b {n : Int} {a b : Nat} (h0 : 0 < a) (ha : a ≤ 8) (h16 : n % 16 = 0) (hn : ¬ (n = 0 ∨ 4096 < n)) (hb : 8 < b) : manW (mostM n a b) = (msharesT, (b : Int), 15) := by
  have hi : (mostM n a b).imps = [] := rfl
  unfold manW
  rw [(most_lens n a b).1, (most_lens n a b).2, hi, if_neg (by omega), if_neg (by omega), most_cs ha h16 hn]
  simp only [List.length_nil]
  rw [if_neg (by decide)]
  simp only [firstE]
  rw [if_pos hb]
theorem most_ok {n : Int} {a b : Nat} (h0 : 0 < a) (ha : a ≤ 8) (h16 : n % 16 = 0) (hn : ¬ (n = 0 ∨ 4096 < n)) (hb : b ≤ 8) : manW (mostM n a b) = okW := by
  have hi : (mostM n a b).imps = [] := rfl
  have hg : (mostM n a b).grns = [] := rfl
  have hs : (mostM n a b).start = ⟨⟨#[]⟩, bsL [99, 97], bsL [102]⟩ := rfl
  have hc : hasC (mostM n a b).comps (bsL [99, 97]) = true := by
    obtain ⟨k, rfl⟩ : ∃ k, a = k + 1 := ⟨a - 1, by omega⟩
    unfold hasC
    rw [List.any_eq_true]
    exact ⟨⟨bsL (cmpN 0), n⟩, by simp [mostM, cmpVs, List.range'_succ], by rfl⟩
  have hf : goodB (bsL [102]) = true := by decide +kernel
  unfold manW
  rw [(most_lens n a b).1, (most_lens n a b).2, hi, hg, hs, if_neg (by omega), if_neg (by omega), most_cs ha h16 hn]
  simp only [List.length_nil]
  rw [if_neg (by decide)]
  simp only [firstE]
  rw [if_neg (by omega), most_ss hb]
  simp only
  rw [if_neg (by decide), hc, hf, if_neg (by decide), if_neg (by simp)]
/-- What Parse says of the text of ManMost. -/
theorem most_says {D : List UInt8} {n : Nat} (hD : DigsOf n D) (hn : n < 4294967296) (h16 : n % 16 = 0) (a b : Nat) (ha : 0 < a) (ha2 : a ≤ 12) (hb : b ≤ 11) :
    (8 < a → manL (mostT D a b) = .error (compsT, (a : Int), 15)) ∧
    (a ≤ 8 → (n = 0 ∨ 4096 < n) → manL (mostT D a b) = .error (compT, 0, 14)) ∧
    (a ≤ 8 → ¬ (n = 0 ∨ 4096 < n) → 8 < b → manL (mostT D a b) = .error (msharesT, (b : Int), 15)) ∧
    (a ≤ 8 → ¬ (n = 0 ∨ 4096 < n) → b ≤ 8 → manL (mostT D a b) = .ok (mostM n a b)) := by
  have hl := most_lines hD hn a b ha (by omega) (by omega)
  have hz : (n : Int) % 16 = 0 := by omega
  have hm : manL (mostT D a b) = if (manW (mostM n a b)).2.2 = 0 then .ok (mostM n a b) else .error (manW (mostM n a b)) := by
    unfold manL
    rw [hl]
  rw [hm]
  refine ⟨fun h => ?_, fun h1 h2 => ?_, fun h1 h2 h3 => ?_, fun h1 h2 h3 => ?_⟩
  · rw [most_a h]; exact if_neg (show ¬ (15 : Int) = 0 by decide)
  · rw [most_n ha h1 hz (by omega)]; exact if_neg (show ¬ (14 : Int) = 0 by decide)
  · rw [most_b ha h1 hz (by omega) h3]; exact if_neg (show ¬ (15 : Int) = 0 by decide)
  · rw [most_ok ha h1 hz (by omega) h3]; exact if_pos rfl
/-! ### The texts of known -/
def kManT : List UInt8 := [99, 111, 109, 112, 32, 97, 32, 54, 52, 10, 99, 111, 109, 112, 32, 98, 32, 51, 50, 10, 105, 109, 112, 111, 114, 116, 32, 97, 32, 98, 32, 102, 10, 115, 104, 97, 114, 101, 32, 115, 32, 49, 54, 10, 103, 114, 97, 110, 116, 32, 97, 32, 115, 32, 114, 119, 10, 115, 116, 97, 114, 116, 32, 97, 32, 109, 97, 105, 110, 10]
def kMan : ManV := ⟨[⟨bsL [97], 64⟩, ⟨bsL [98], 32⟩], [⟨bsL [97], bsL [98], bsL [102]⟩], [⟨bsL [115], 16⟩], [⟨bsL [97], bsL [115], 3⟩], ⟨⟨#[]⟩, bsL [97], bsL [109, 97, 105, 110]⟩⟩
theorem kMan_parse : manL kManT = .ok kMan := by kernel_rfl
theorem kMan_text : manT kMan = kManT := by kernel_rfl
theorem kMan_check : manW kMan = okW := by kernel_rfl
theorem kMan_b : idxL kMan.comps (bsL [98]) 0 = 1 := by kernel_rfl
theorem kMan_c : idxL kMan.comps (bsL [99]) 0 = -1 := by kernel_rfl
def kMan2 : List UInt8 := [99, 111, 109, 112, 32, 97, 32, 54, 52, 10, 99, 111, 109, 112, 32, 97, 32, 54, 52, 10, 115, 116, 97, 114, 116, 32, 97, 32, 120, 10]
theorem kMan2_parse : manL kMan2 = .error (compT, 1, 13) := by kernel_rfl
def kMan3 : List UInt8 := [99, 111, 109, 112, 32, 97, 32, 32, 54, 52, 10]
theorem kMan3_parse : manL kMan3 = .error (mlineT, 0, 11) := by kernel_rfl
end Go.Proofs.YteddflbidafebaaGreatDoor
