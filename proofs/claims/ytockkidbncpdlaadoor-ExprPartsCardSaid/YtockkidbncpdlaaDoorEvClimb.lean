/- Constants, plain: the same by climbing: one side, then the signs from a level on. -/
import Derived.Test.YtockkidbncpdlaaDoorEvMath
namespace Go.Proofs.YtockkidbncpdlaaDoor
set_option linter.unusedVariables false
set_option linter.unusedSimpArgs false
open Go.RowKit
/-- The level of a sign, the weakest 1; 0: none. -/
def levT (s : ByteArray) : Nat :=
  if s = sBar then 1 else if s = sHat then 2 else if s = sAmp then 3 else if s = sShl then 4 else if s = sShr then 4 else if s = sAdd then 5 else if s = sSub then 5 else if s = sMul then 6 else 0
theorem lev_in (s : ByteArray) (i : Nat) (hi : i < 6) : inS (lvS i) s = decide (levT s = i + 1) := by
  have key : ∀ (t : ByteArray), (t = sBar ∨ t = sHat ∨ t = sAmp ∨ t = sShl ∨ t = sShr ∨ t = sAdd ∨ t = sSub ∨ t = sMul) → inS (lvS i) t = decide (levT t = i + 1) := by
    intro t ht
    rcases ht with rfl | rfl | rfl | rfl | rfl | rfl | rfl | rfl <;>
      (rcases (by omega : i = 0 ∨ i = 1 ∨ i = 2 ∨ i = 3 ∨ i = 4 ∨ i = 5) with rfl | rfl | rfl | rfl | rfl | rfl <;> decide)
  by_cases h1 : s = sBar
  · exact key s (.inl h1)
  by_cases h2 : s = sHat
  · exact key s (.inr (.inl h2))
  by_cases h3 : s = sAmp
  · exact key s (.inr (.inr (.inl h3)))
  by_cases h4 : s = sShl
  · exact key s (.inr (.inr (.inr (.inl h4))))
  by_cases h5 : s = sShr
  · exact key s (.inr (.inr (.inr (.inr (.inl h5)))))
  by_cases h6 : s = sAdd
  · exact key s (.inr (.inr (.inr (.inr (.inr (.inl h6))))))
  by_cases h7 : s = sSub
  · exact key s (.inr (.inr (.inr (.inr (.inr (.inr (.inl h7)))))))
  by_cases h8 : s = sMul
  · exact key s (.inr (.inr (.inr (.inr (.inr (.inr (.inr h8)))))))
  have e : levT s = 0 := by unfold levT; rw [if_neg h1, if_neg h2, if_neg h3, if_neg h4, if_neg h5, if_neg h6, if_neg h7, if_neg h8]
  rw [e, decide_eq_false (by omega)]
  rcases (by omega : i = 0 ∨ i = 1 ∨ i = 2 ∨ i = 3 ∨ i = 4 ∨ i = 5) with rfl | rfl | rfl | rfl | rfl | rfl <;>
    simp only [lvS, inS, Bool.or_false, Bool.or_eq_false_iff, decide_eq_false_iff_not, ne_eq] <;>
    first | exact fun h => h1 h.symm | exact fun h => h2 h.symm | exact fun h => h3 h.symm | exact ⟨fun h => h4 h.symm, fun h => h5 h.symm⟩ | exact ⟨fun h => h6 h.symm, fun h => h7 h.symm⟩ | exact fun h => h8 h.symm
theorem levT_le (s : ByteArray) : levT s ≤ 6 := by
  unfold levT
  repeat (split; · omega)
  omega
/-- The text of the sign at a place; of none the empty one. -/
def sgn (l : List Tok) (p : Nat) : ByteArray :=
  match l[p]? with
  | none => ⟨#[]⟩
  | some t => if t.kind = 3 then t.text else ⟨#[]⟩
theorem sgn_sign {l : List Tok} {p : Nat} {t : Tok} (h : l[p]? = some t) (k : t.kind = 3) : sgn l p = t.text := by
  unfold sgn; rw [h]; exact if_pos k
theorem sgn_other {l : List Tok} {p : Nat} {t : Tok} (h : l[p]? = some t) (k : ¬ t.kind = 3) : sgn l p = ⟨#[]⟩ := by
  unfold sgn; rw [h]; exact if_neg k
theorem sgn_end {l : List Tok} {p : Nat} (h : l[p]? = none) : sgn l p = ⟨#[]⟩ := by
  unfold sgn; rw [h]
/-- A sign at a place, by its text; no such set has the empty one. -/
theorem sgn_at (l : List Tok) (p : Nat) (S : List ByteArray) (z : inS S ⟨#[]⟩ = false) : signAt l p S = if inS S (sgn l p) = true then some (sgn l p) else none := by
  unfold signAt
  cases h : l[p]? with
  | none =>
    simp only
    rw [sgn_end h, if_neg (by rw [z]; decide)]
  | some t =>
    simp only
    by_cases k : t.kind = 3
    · rw [sgn_sign h k]
      simp only [k, true_and]
    · rw [sgn_other h k, if_neg (fun h => k h.1), if_neg (by rw [z]; decide)]
theorem sgn_lev (l : List Tok) (p i : Nat) (hi : i < 6) : signAt l p (lvS i) = if levT (sgn l p) = i + 1 then some (sgn l p) else none := by
  rw [sgn_at _ _ _ (by rw [lev_in _ _ hi, show levT (⟨#[]⟩ : ByteArray) = 0 by decide]; exact decide_eq_false (by omega)), lev_in _ _ hi]
  simp only [decide_eq_true_eq]
theorem sgn_shut {l : List Tok} {p : Nat} : sgn l p = sShut → signAt l p [sShut] = some sShut := by
  intro h
  rw [sgn_at _ _ _ (by decide), h]
  decide
theorem sgn_open {l : List Tok} {p : Nat} (h : sgn l p ≠ sShut) : signAt l p [sShut] = none := by
  rw [sgn_at _ _ _ (by decide), if_neg]
  simp only [inS, Bool.or_false, decide_eq_true_eq]
  exact fun e => h e.symm
theorem sgn_un {l : List Tok} {p : Nat} {s : ByteArray} (h : sgn l p = s) (hs : s = sSub ∨ s = sNot ∨ s = sOpen) : signAt l p unS = some s := by
  rw [sgn_at _ _ _ (by decide), h]
  rcases hs with rfl | rfl | rfl <;> decide
theorem sgn_nun {l : List Tok} {p : Nat} (h1 : sgn l p ≠ sSub) (h2 : sgn l p ≠ sNot) (h3 : sgn l p ≠ sOpen) : signAt l p unS = none := by
  rw [sgn_at _ _ _ (by decide), if_neg]
  simp only [unS, inS, Bool.or_false, Bool.or_eq_true, decide_eq_true_eq]
  rintro (h | h | h)
  · exact h1 h.symm
  · exact h2 h.symm
  · exact h3 h.symm
theorem sgn_lt {l : List Tok} {p : Nat} (h : sgn l p ≠ ⟨#[]⟩) : p < l.length := by
  rcases Nat.lt_or_ge p l.length with h1 | h1
  · exact h1
  · unfold sgn at h
    rw [List.getElem?_eq_none h1] at h
    exact absurd rfl h
theorem sgn_none {l : List Tok} {p k : Nat} (h : levT (sgn l p) < k + 1) (i : Nat) (h1 : k ≤ i) (h2 : i < 6) : signAt l p (lvS i) = none := by
  rw [sgn_lev _ _ _ h2, if_neg (by omega)]
section
variable (L : List Tok) (N : List (ByteArray × Int))
/-- What is still to be read behind a number, of the levels from one on. -/
inductive Rest (d : Nat) : Nat → Int → Nat → EvR → Prop
  | done {n : Int} {p : Nat} : Rest d 6 n p (.ok n p)
  | bad {k p q : Nat} {n e : Int} : k < 6 → Rest d (k + 1) n p (.bad q e) → Rest d k n p (.bad q e)
  | go {k p q : Nat} {n m : Int} {r : EvR} : k < 6 → Rest d (k + 1) n p (.ok m q) → Ev L N (.chain k m q) d r → Rest d k n p r
end
section
variable {L : List Tok} {N : List (ByteArray × Int)}
theorem Rest.lev {d k a p : Nat} {n : Int} {r : EvR} (hu : Ev L N (.un a) d (.ok n p)) (h : Rest L N d k n p r) : Ev L N (.lev k a) d r := by
  induction h with
  | done => exact .top hu
  | bad hk _ ih => exact .levBad hk (ih hu)
  | go hk _ hc ih => exact .levOk hk (ih hu) hc
theorem rest_stop {d p : Nat} {n : Int} : ∀ (c k : Nat), k + c = 6 → (∀ i, k ≤ i → i < 6 → signAt L p (lvS i) = none) → Rest L N d k n p (.ok n p)
  | 0, k, hk, _ => by obtain rfl : k = 6 := by omega
                      exact .done
  | c + 1, k, hk, hs => .go (by omega) (rest_stop c (k + 1) (by omega) fun i h1 h2 => hs i (by omega) h2) (.stop (hs k (Nat.le_refl _) (by omega)))
theorem Rest.stops {d k p : Nat} {n : Int} {r : EvR} (h : Rest L N d k n p r) : (∀ i, k ≤ i → i < 6 → signAt L p (lvS i) = none) → r = .ok n p := by
  induction h with
  | done => exact fun _ => rfl
  | bad _ _ ih => exact fun hs => nomatch ih fun i h1 h2 => hs i (by omega) h2
  | go hk _ hc ih =>
    intro hs
    cases ih fun i h1 h2 => hs i (by omega) h2
    have h0 := hs _ (Nat.le_refl _) hk
    cases hc with
    | stop _ => rfl
    | chBad h _ => rw [h0] at h; cases h
    | chOver h _ _ => rw [h0] at h; cases h
    | chGo h _ _ _ => rw [h0] at h; cases h
theorem Rest.up {d j p q : Nat} {n e : Int} : ∀ (c k : Nat), k + c = j → j ≤ 6 → Rest L N d j n p (.bad q e) → Rest L N d k n p (.bad q e)
  | 0, k, hk, _, h => by obtain rfl : k = j := by omega
                         exact h
  | c + 1, k, hk, hj, h => .bad (by omega) (Rest.up c (k + 1) (by omega) hj h)
/-- Other levels' signs are none of this one's. -/
theorem sign_other {p i j : Nat} {s : ByteArray} (hj : j < 6) (hs : signAt L p (lvS j) = some s) (hi : i < 6) (h : i ≠ j) : signAt L p (lvS i) = none := by
  rw [sgn_lev _ _ _ hj] at hs
  rw [sgn_lev _ _ _ hi]
  split at hs
  · rw [if_neg (by omega)]
  · cases hs
theorem rest_bad {d k j p q : Nat} {n e : Int} {s : ByteArray} (hkj : k ≤ j) (hj : j < 6) (hs : signAt L p (lvS j) = some s) (h : Ev L N (.lev (j + 1) (p + 1)) d (.bad q e)) : Rest L N d k n p (.bad q e) :=
  Rest.up (j - k) k (by omega) (by omega) (.go hj (rest_stop (5 - j) (j + 1) (by omega) fun i h1 h2 => sign_other hj hs h2 (by omega)) (.chBad hs h))
theorem rest_over {d k j p q : Nat} {n m : Int} {s : ByteArray} (hkj : k ≤ j) (hj : j < 6) (hs : signAt L p (lvS j) = some s) (h : Ev L N (.lev (j + 1) (p + 1)) d (.ok m q)) (hn : joinE s n m = none) : Rest L N d k n p (.bad p 14) :=
  Rest.up (j - k) k (by omega) (by omega) (.go hj (rest_stop (5 - j) (j + 1) (by omega) fun i h1 h2 => sign_other hj hs h2 (by omega)) (.chOver hs h hn))
/-- Behind a level none of its signs stands, nor of a stronger one. -/
theorem Ev.behind {m : EvM} {d : Nat} {r : EvR} (h : Ev L N m d r) : ∀ {n : Int} {p : Nat}, r = .ok n p → match m with
    | .lev k _ => ∀ i, k ≤ i → i < 6 → signAt L p (lvS i) = none
    | .chain k _ p0 => (∀ i, k + 1 ≤ i → i < 6 → signAt L p0 (lvS i) = none) → ∀ i, k ≤ i → i < 6 → signAt L p (lvS i) = none
    | .un _ => True := by
  induction h with
  | top _ _ => intro n p _ i h1 h2; omega
  | levBad _ _ _ => intro n p hr; cases hr
  | levOk _ _ _ ih1 ih2 => intro n p hr; exact ih2 hr (ih1 rfl)
  | @stop k d p n hs =>
    intro n' p' hr
    cases hr
    intro h i h1 h2
    by_cases e : i = k
    · subst e; exact hs
    · exact h i (by omega) h2
  | chBad _ _ _ => intro n p hr; cases hr
  | chOver _ _ _ _ => intro n p hr; cases hr
  | chGo _ _ _ _ ih1 ih2 => intro n p hr _; exact ih2 hr (ih1 rfl)
  | long _ _ => intro n p hr; cases hr
  | neg _ _ _ _ _ _ => intro n p _; trivial
  | negOver _ _ _ _ _ _ => intro n p hr; cases hr
  | negBad _ _ _ _ _ => intro n p hr; cases hr
  | par _ _ _ _ _ => intro n p _; trivial
  | parForm _ _ _ _ _ => intro n p hr; cases hr
  | parBad _ _ _ _ => intro n p hr; cases hr
  | atom _ _ => intro n p _; trivial
  | form _ _ => intro n p hr; cases hr
theorem rest_go {d j p q : Nat} {n m x : Int} {s : ByteArray} (hj : j < 6) (hs : signAt L p (lvS j) = some s) (h : Ev L N (.lev (j + 1) (p + 1)) d (.ok m q)) (hx : joinE s n m = some x) : ∀ (c k : Nat) (r : EvR), k + c = j → Rest L N d k x q r → Rest L N d k n p r
  | 0, k, r, hk, hr => by
    obtain rfl : k = j := by omega
    have at_ : Rest L N d (k + 1) n p (.ok n p) := rest_stop (5 - k) (k + 1) (by omega) fun i h1 h2 => sign_other hj hs h2 (by omega)
    cases hr with
    | done => omega
    | bad hk h2 => cases h2.stops (Ev.behind h rfl)
    | go hk h2 hc =>
      cases h2.stops (Ev.behind h rfl)
      exact .go hk at_ (.chGo hs h hx hc)
  | c + 1, k, r, hk, hr => by
    cases hr with
    | done => omega
    | bad hk h2 => exact .bad hk (rest_go hj hs h hx c (k + 1) _ (by omega) h2)
    | go hk h2 hc => exact .go hk (rest_go hj hs h hx c (k + 1) _ (by omega) h2) hc
end
end Go.Proofs.YtockkidbncpdlaaDoor
