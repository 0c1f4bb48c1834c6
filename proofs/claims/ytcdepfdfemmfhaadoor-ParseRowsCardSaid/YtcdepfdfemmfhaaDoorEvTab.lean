/- Constants of the assembler, plain: what P1301 says of any words, as a relation; each way ends in one. -/
import Derived.Test.YtcdepfdfemmfhaaDoorLexTab
namespace Go.Proofs.YtcdepfdfemmfhaaDoor
set_option linter.unusedVariables false
set_option linter.unusedSimpArgs false
open Go.RowKit
/-- How one ended: a number and the place behind; or a place and what is wrong there. -/
inductive EvR where
  | ok (n : Int) (p : Nat)
  | bad (p : Nat) (e : Int)
def sBar : ByteArray := ⟨#[124]⟩
def sHat : ByteArray := ⟨#[94]⟩
def sAmp : ByteArray := ⟨#[38]⟩
def sShl : ByteArray := ⟨#[60, 60]⟩
def sShr : ByteArray := ⟨#[62, 62]⟩
def sAdd : ByteArray := ⟨#[43]⟩
def sSub : ByteArray := ⟨#[45]⟩
def sMul : ByteArray := ⟨#[42]⟩
def sNot : ByteArray := ⟨#[126]⟩
def sOpen : ByteArray := ⟨#[40]⟩
def sShut : ByteArray := ⟨#[41]⟩
/-- The signs of a level, the weakest first. -/
def lvS : Nat → List ByteArray
  | 0 => [sBar]
  | 1 => [sHat]
  | 2 => [sAmp]
  | 3 => [sShl, sShr]
  | 4 => [sAdd, sSub]
  | 5 => [sMul]
  | _ => []
def unS : List ByteArray := [sSub, sNot, sOpen]
def inS : List ByteArray → ByteArray → Bool
  | [], _ => false
  | x :: r, s => decide (x = s) || inS r s
/-- The sign at a place, if it is one of these. -/
def signAt (l : List Tok) (p : Nat) (S : List ByteArray) : Option ByteArray :=
  match l[p]? with
  | none => none
  | some t => if t.kind = 3 ∧ inS S t.text = true then some t.text else none
def boundE (n : Int) : Option Int := if n < -lxBig ∨ lxBig < n then none else some n
def absI (a : Int) : Int := if a < 0 then 0 - a else a
def timesE (a b : Int) : Option Int := if a = 0 ∨ b = 0 then some 0 else if absI a > lxBig / absI b then none else some (a * b)
/-- What a sign makes of two; none: beyond the bound. -/
def joinE (s : ByteArray) (a b : Int) : Option Int :=
  if s = sBar then boundE (bits .or .i64 a b) else
  if s = sHat then boundE (bits .xor .i64 a b) else
  if s = sAmp then boundE (bits .and .i64 a b) else
  if s = sAdd then boundE (a + b) else
  if s = sSub then boundE (a - b) else
  if s = sMul then timesE a b else
  if b < 0 ∨ 40 < b then none else
  if s = sShr then some (a / 2 ^ b.toNat) else timesE a (2 ^ b.toNat)
/-- What a sign ahead makes of one. -/
def preE (s : ByteArray) (n : Int) : Int := if s = sSub then 0 - n else 0 - n - 1
def nameE : List (ByteArray × Int) → ByteArray → Option Int
  | [], _ => none
  | (x, n) :: r, s => if x = s then some n else nameE r s
/-- A number or a name. -/
def atomE (N : List (ByteArray × Int)) (t : Tok) (at_ : Nat) : EvR :=
  if t.kind = 2 then .ok t.n (at_ + 1) else
  match nameE N t.text with
  | none => .bad at_ 12
  | some n => match boundE n with
    | none => .bad at_ 14
    | some x => .ok x (at_ + 1)
/-- What is read: a level from a place on; the rest of a level's chain behind a number; what stands alone. -/
inductive EvM where
  | lev (k : Nat) (at_ : Nat)
  | chain (k : Nat) (n : Int) (p : Nat)
  | un (at_ : Nat)
section
variable (L : List Tok) (N : List (ByteArray × Int))
inductive Ev : EvM → Nat → EvR → Prop
  | top {at_ d : Nat} {r : EvR} : Ev (.un at_) d r → Ev (.lev 6 at_) d r
  | levBad {k at_ d p : Nat} {e : Int} : k < 6 → Ev (.lev (k + 1) at_) d (.bad p e) → Ev (.lev k at_) d (.bad p e)
  | levOk {k at_ d p : Nat} {n : Int} {r : EvR} : k < 6 → Ev (.lev (k + 1) at_) d (.ok n p) → Ev (.chain k n p) d r → Ev (.lev k at_) d r
  | stop {k d p : Nat} {n : Int} : signAt L p (lvS k) = none → Ev (.chain k n p) d (.ok n p)
  | chBad {k d p q : Nat} {n e : Int} {s : ByteArray} : signAt L p (lvS k) = some s → Ev (.lev (k + 1) (p + 1)) d (.bad q e) → Ev (.chain k n p) d (.bad q e)
  | chOver {k d p q : Nat} {n m : Int} {s : ByteArray} : signAt L p (lvS k) = some s → Ev (.lev (k + 1) (p + 1)) d (.ok m q) → joinE s n m = none → Ev (.chain k n p) d (.bad p 14)
  | chGo {k d p q : Nat} {n m x : Int} {s : ByteArray} {r : EvR} : signAt L p (lvS k) = some s → Ev (.lev (k + 1) (p + 1)) d (.ok m q) → joinE s n m = some x → Ev (.chain k x q) d r → Ev (.chain k n p) d r
  | long {at_ d : Nat} {s : ByteArray} : signAt L at_ unS = some s → 16 < d → Ev (.un at_) d (.bad at_ 15)
  | neg {at_ d p : Nat} {n x : Int} {s : ByteArray} : signAt L at_ unS = some s → s ≠ sOpen → d ≤ 16 → Ev (.un (at_ + 1)) (d + 1) (.ok n p) → boundE (preE s n) = some x → Ev (.un at_) d (.ok x p)
  | negOver {at_ d p : Nat} {n : Int} {s : ByteArray} : signAt L at_ unS = some s → s ≠ sOpen → d ≤ 16 → Ev (.un (at_ + 1)) (d + 1) (.ok n p) → boundE (preE s n) = none → Ev (.un at_) d (.bad at_ 14)
  | negBad {at_ d p : Nat} {e : Int} {s : ByteArray} : signAt L at_ unS = some s → s ≠ sOpen → d ≤ 16 → Ev (.un (at_ + 1)) (d + 1) (.bad p e) → Ev (.un at_) d (.bad p e)
  | par {at_ d p : Nat} {n : Int} {s : ByteArray} : signAt L at_ unS = some sOpen → d ≤ 16 → Ev (.lev 0 (at_ + 1)) (d + 1) (.ok n p) → signAt L p [sShut] = some s → Ev (.un at_) d (.ok n (p + 1))
  | parForm {at_ d p : Nat} {n : Int} : signAt L at_ unS = some sOpen → d ≤ 16 → Ev (.lev 0 (at_ + 1)) (d + 1) (.ok n p) → signAt L p [sShut] = none → Ev (.un at_) d (.bad p 11)
  | parBad {at_ d p : Nat} {e : Int} : signAt L at_ unS = some sOpen → d ≤ 16 → Ev (.lev 0 (at_ + 1)) (d + 1) (.bad p e) → Ev (.un at_) d (.bad p e)
  | atom {at_ d : Nat} {t : Tok} : L[at_]? = some t → (t.kind = 2 ∨ t.kind = 1) → Ev (.un at_) d (atomE N t at_)
  | form {at_ d : Nat} : signAt L at_ unS = none → (∀ t, L[at_]? = some t → t.kind ≠ 2 ∧ t.kind ≠ 1) → Ev (.un at_) d (.bad at_ 11)
end
theorem signAt_kind {l : List Tok} {p : Nat} {S : List ByteArray} {s : ByteArray} (h : signAt l p S = some s) : ∃ t, l[p]? = some t ∧ t.kind = 3 ∧ t.text = s ∧ inS S s = true := by
  unfold signAt at h
  split at h
  · cases h
  · rename_i t ht
    split at h
    · rename_i hk
      cases h
      exact ⟨t, ht, hk.1, rfl, hk.2⟩
    · cases h
/-- A way that is walked ends in one. -/
theorem Ev.same {L : List Tok} {N : List (ByteArray × Int)} {m : EvM} {d : Nat} {r : EvR} (h : Ev L N m d r) : ∀ {r' : EvR}, Ev L N m d r' → r = r' := by
  have kind3 : ∀ {at_ : Nat} {S : List ByteArray} {s : ByteArray} {t : Tok}, signAt L at_ S = some s → L[at_]? = some t → t.kind = 3 := by
    intro at_ S s t h1 h2
    obtain ⟨u, hu, hk, _⟩ := signAt_kind h1
    rw [h2] at hu; cases hu; exact hk
  induction h with
  | top _ ih => intro r' h'; cases h' with
    | top h => exact ih h
    | levBad hk _ => omega
    | levOk hk _ _ => omega
  | levBad hk _ ih => intro r' h'; cases h' with
    | top h => omega
    | levBad _ h => exact ih h
    | levOk _ h _ => cases ih h
  | levOk hk _ _ ih1 ih2 => intro r' h'; cases h' with
    | top h => omega
    | levBad _ h => cases ih1 h
    | levOk _ h1 h2 => cases ih1 h1; exact ih2 h2
  | stop hs => intro r' h'; cases h' with
    | stop _ => rfl
    | chBad h _ => rw [hs] at h; cases h
    | chOver h _ _ => rw [hs] at h; cases h
    | chGo h _ _ _ => rw [hs] at h; cases h
  | chBad hs _ ih => intro r' h'; cases h' with
    | stop h => rw [hs] at h; cases h
    | chBad _ h => exact ih h
    | chOver _ h _ => cases ih h
    | chGo _ h _ _ => cases ih h
  | chOver hs _ hj ih => intro r' h'; cases h' with
    | stop h => rw [hs] at h; cases h
    | chBad _ h => cases ih h
    | chOver _ _ _ => rfl
    | chGo h1 h2 h3 _ => cases ih h2; rw [hs] at h1; cases h1; rw [hj] at h3; cases h3
  | chGo hs _ hj _ ih1 ih2 => intro r' h'; cases h' with
    | stop h => rw [hs] at h; cases h
    | chBad _ h => cases ih1 h
    | chOver h1 h2 h3 => cases ih1 h2; rw [hs] at h1; cases h1; rw [hj] at h3; cases h3
    | chGo h1 h2 h3 h4 => cases ih1 h2; rw [hs] at h1; cases h1; rw [hj] at h3; cases h3; exact ih2 h4
  | long hs hd => intro r' h'; cases h' with
    | long hs' hd' => rfl
    | neg hs' hn' hd' X' hb' => omega
    | negOver hs' hn' hd' X' hb' => omega
    | negBad hs' hn' hd' X' => omega
    | par hs' hd' X' hb' => omega
    | parForm hs' hd' X' hb' => omega
    | parBad hs' hd' X' => omega
    | atom ht' hk' => have := kind3 hs ht'; omega
    | form hs' hf' => rw [hs] at hs'; cases hs'
  | neg hs hn hd _ hb ih => intro r' h'; cases h' with
    | long hs' hd' => omega
    | neg hs' hn' hd' X' hb' => rw [hs] at hs'; cases hs'; cases ih X'; rw [hb] at hb'; cases hb'; rfl
    | negOver hs' hn' hd' X' hb' => rw [hs] at hs'; cases hs'; cases ih X'; rw [hb] at hb'; cases hb'
    | negBad hs' hn' hd' X' => cases ih X'
    | par hs' hd' X' hb' => rw [hs] at hs'; cases hs'; exact absurd rfl hn
    | parForm hs' hd' X' hb' => rw [hs] at hs'; cases hs'; exact absurd rfl hn
    | parBad hs' hd' X' => rw [hs] at hs'; cases hs'; exact absurd rfl hn
    | atom ht' hk' => have := kind3 hs ht'; omega
    | form hs' hf' => rw [hs] at hs'; cases hs'
  | negOver hs hn hd _ hb ih => intro r' h'; cases h' with
    | long hs' hd' => omega
    | neg hs' hn' hd' X' hb' => rw [hs] at hs'; cases hs'; cases ih X'; rw [hb] at hb'; cases hb'
    | negOver hs' hn' hd' X' hb' => rfl
    | negBad hs' hn' hd' X' => cases ih X'
    | par hs' hd' X' hb' => rw [hs] at hs'; cases hs'; exact absurd rfl hn
    | parForm hs' hd' X' hb' => rw [hs] at hs'; cases hs'; exact absurd rfl hn
    | parBad hs' hd' X' => rw [hs] at hs'; cases hs'; exact absurd rfl hn
    | atom ht' hk' => have := kind3 hs ht'; omega
    | form hs' hf' => rw [hs] at hs'; cases hs'
  | negBad hs hn hd _ ih => intro r' h'; cases h' with
    | long hs' hd' => omega
    | neg hs' hn' hd' X' hb' => cases ih X'
    | negOver hs' hn' hd' X' hb' => cases ih X'
    | negBad hs' hn' hd' X' => exact ih X'
    | par hs' hd' X' hb' => rw [hs] at hs'; cases hs'; exact absurd rfl hn
    | parForm hs' hd' X' hb' => rw [hs] at hs'; cases hs'; exact absurd rfl hn
    | parBad hs' hd' X' => rw [hs] at hs'; cases hs'; exact absurd rfl hn
    | atom ht' hk' => have := kind3 hs ht'; omega
    | form hs' hf' => rw [hs] at hs'; cases hs'
  | par hs hd _ hb ih => intro r' h'; cases h' with
    | long hs' hd' => omega
    | neg hs' hn' hd' X' hb' => rw [hs] at hs'; cases hs'; exact absurd rfl hn'
    | negOver hs' hn' hd' X' hb' => rw [hs] at hs'; cases hs'; exact absurd rfl hn'
    | negBad hs' hn' hd' X' => rw [hs] at hs'; cases hs'; exact absurd rfl hn'
    | par hs' hd' X' hb' => cases ih X'; rfl
    | parForm hs' hd' X' hb' => cases ih X'; rw [hb] at hb'; cases hb'
    | parBad hs' hd' X' => cases ih X'
    | atom ht' hk' => have := kind3 hs ht'; omega
    | form hs' hf' => rw [hs] at hs'; cases hs'
  | parForm hs hd _ hb ih => intro r' h'; cases h' with
    | long hs' hd' => omega
    | neg hs' hn' hd' X' hb' => rw [hs] at hs'; cases hs'; exact absurd rfl hn'
    | negOver hs' hn' hd' X' hb' => rw [hs] at hs'; cases hs'; exact absurd rfl hn'
    | negBad hs' hn' hd' X' => rw [hs] at hs'; cases hs'; exact absurd rfl hn'
    | par hs' hd' X' hb' => cases ih X'; rw [hb] at hb'; cases hb'
    | parForm hs' hd' X' hb' => cases ih X'; rfl
    | parBad hs' hd' X' => cases ih X'
    | atom ht' hk' => have := kind3 hs ht'; omega
    | form hs' hf' => rw [hs] at hs'; cases hs'
  | parBad hs hd _ ih => intro r' h'; cases h' with
    | long hs' hd' => omega
    | neg hs' hn' hd' X' hb' => rw [hs] at hs'; cases hs'; exact absurd rfl hn'
    | negOver hs' hn' hd' X' hb' => rw [hs] at hs'; cases hs'; exact absurd rfl hn'
    | negBad hs' hn' hd' X' => rw [hs] at hs'; cases hs'; exact absurd rfl hn'
    | par hs' hd' X' hb' => cases ih X'
    | parForm hs' hd' X' hb' => cases ih X'
    | parBad hs' hd' X' => exact ih X'
    | atom ht' hk' => have := kind3 hs ht'; omega
    | form hs' hf' => rw [hs] at hs'; cases hs'
  | atom ht hk => intro r' h'; cases h' with
    | long hs' hd' => have := kind3 hs' ht; omega
    | neg hs' hn' hd' X' hb' => have := kind3 hs' ht; omega
    | negOver hs' hn' hd' X' hb' => have := kind3 hs' ht; omega
    | negBad hs' hn' hd' X' => have := kind3 hs' ht; omega
    | par hs' hd' X' hb' => have := kind3 hs' ht; omega
    | parForm hs' hd' X' hb' => have := kind3 hs' ht; omega
    | parBad hs' hd' X' => have := kind3 hs' ht; omega
    | atom ht' hk' => rw [ht] at ht'; cases ht'; rfl
    | form hs' hf' => have := hf' _ ht; omega
  | form hs hf => intro r' h'; cases h' with
    | long hs' hd' => rw [hs] at hs'; cases hs'
    | neg hs' hn' hd' X' hb' => rw [hs] at hs'; cases hs'
    | negOver hs' hn' hd' X' hb' => rw [hs] at hs'; cases hs'
    | negBad hs' hn' hd' X' => rw [hs] at hs'; cases hs'
    | par hs' hd' X' hb' => rw [hs] at hs'; cases hs'
    | parForm hs' hd' X' hb' => rw [hs] at hs'; cases hs'
    | parBad hs' hd' X' => rw [hs] at hs'; cases hs'
    | atom ht' hk' => have := hf _ ht'; omega
    | form hs' hf' => rfl
end Go.Proofs.YtcdepfdfemmfhaaDoor
