/- Constants of the assembler, plain: one in brackets within others; a chain of one sign; numbers stay within the bound. -/
import Derived.Test.YtcdepfdfemmfhaaDoorEvTab
namespace Go.Proofs.YtcdepfdfemmfhaaDoor
set_option linter.unusedVariables false
set_option linter.unusedSimpArgs false
open Go.RowKit
def EvM.at_ : EvM → Nat
  | .lev _ a => a
  | .chain _ _ p => p
  | .un a => a
/-- The same, further on. -/
def EvM.on (o : Nat) : EvM → EvM
  | .lev k a => .lev k (o + a)
  | .chain k n p => .chain k n (o + p)
  | .un a => .un (o + a)
/-- Alike but for where it begins. -/
def Tok.like (a b : Tok) : Prop := a.kind = b.kind ∧ a.text = b.text ∧ a.n = b.n
theorem signAt_like {L M : List Tok} {o p : Nat} {S : List ByteArray} (h : ∀ t, M[p]? = some t → ∃ u, L[o + p]? = some u ∧ u.like t) {s : ByteArray} (hs : signAt M p S = some s) : signAt L (o + p) S = some s := by
  obtain ⟨t, ht, hk, htx, hm⟩ := signAt_kind hs
  obtain ⟨u, hu, h1, h2, h3⟩ := h t ht
  unfold signAt
  rw [hu]
  simp only
  rw [if_pos ⟨by omega, by rw [h2, htx]; exact hm⟩, h2, htx]
theorem atomE_like {N : List (ByteArray × Int)} {u t : Tok} (h : u.like t) {at_ o p : Nat} {n : Int} (ha : atomE N t at_ = .ok n p) : p = at_ + 1 ∧ atomE N u (o + at_) = .ok n (o + p) := by
  obtain ⟨h1, h2, h3⟩ := h
  unfold atomE at ha ⊢
  rw [h1, h2, h3]
  split at ha
  · rename_i hk
    rw [if_pos hk]
    cases ha
    exact ⟨rfl, rfl⟩
  · rename_i hk
    rw [if_neg hk]
    split at ha
    · cases ha
    · rename_i n0 hn0
      split at ha
      · cases ha
      · rename_i x hx
        cases ha
        exact ⟨rfl, rfl⟩
/-- Words that stand within others, from a place on; behind them none of a level's signs. -/
structure Emb (M L : List Tok) (o : Nat) : Prop where
  on : ∀ i t, M[i]? = some t → ∃ u, L[o + i]? = some u ∧ u.like t
  behind : ∀ k, signAt L (o + M.length) (lvS k) = none
theorem Emb.none {M L : List Tok} {o p k : Nat} (h : Emb M L o) (hp : p ≤ M.length) (hs : signAt M p (lvS k) = none) : signAt L (o + p) (lvS k) = none := by
  by_cases e : p = M.length
  · subst e; exact h.behind k
  · have hlt : p < M.length := by omega
    obtain ⟨u, hu, h1, h2, h3⟩ := h.on p M[p] (List.getElem?_eq_getElem hlt)
    unfold signAt at hs ⊢
    rw [List.getElem?_eq_getElem hlt] at hs
    rw [hu]
    simp only at hs ⊢
    rw [h1, h2]
    split at hs
    · cases hs
    · rename_i hk; rw [if_neg hk]
theorem Emb.sign {M L : List Tok} {o p : Nat} {S : List ByteArray} {s : ByteArray} (h : Emb M L o) (hs : signAt M p S = some s) : signAt L (o + p) S = some s := signAt_like (fun t => h.on _ t) hs
/-- What is right alone is right wherever it stands, or it lies too deep wherever it stands. -/
theorem Ev.move {M : List Tok} {N : List (ByteArray × Int)} {m : EvM} {d : Nat} {r : EvR} (h : Ev M N m d r) : ∀ {n : Int} {p : Nat}, r = .ok n p → m.at_ ≤ M.length → ∀ d', p ≤ M.length ∧ m.at_ ≤ p ∧
    ((∀ L o, Emb M L o → Ev L N (m.on o) d' (.ok n (o + p))) ∨ ∀ L o, Emb M L o → ∃ q e, Ev L N (m.on o) d' (.bad q e)) := by
  have lt_of : ∀ {p : Nat} {S : List ByteArray} {s : ByteArray}, signAt M p S = some s → p < M.length := by
    intro p S s hs
    obtain ⟨t, ht, _⟩ := signAt_kind hs
    exact (List.getElem?_eq_some_iff.1 ht).1
  induction h with
  | top _ ih =>
    intro n p hr ha d'
    obtain ⟨h1, h2, h3⟩ := ih hr ha d'
    refine ⟨h1, h2, ?_⟩
    rcases h3 with h3 | h3
    · exact .inl fun L o E => .top (h3 L o E)
    · exact .inr fun L o E => let ⟨q, e, h⟩ := h3 L o E; ⟨q, e, .top h⟩
  | levBad _ _ _ => intro n p hr; cases hr
  | levOk hk _ _ ih1 ih2 =>
    intro n p hr ha d'
    obtain ⟨a1, a2, a3⟩ := ih1 rfl ha d'
    obtain ⟨b1, b2, b3⟩ := ih2 hr a1 d'
    refine ⟨b1, Nat.le_trans a2 b2, ?_⟩
    rcases a3 with a3 | a3
    · rcases b3 with b3 | b3
      · exact .inl fun L o E => .levOk hk (a3 L o E) (b3 L o E)
      · exact .inr fun L o E => let ⟨q, e, h⟩ := b3 L o E; ⟨q, e, .levOk hk (a3 L o E) h⟩
    · exact .inr fun L o E => let ⟨q, e, h⟩ := a3 L o E; ⟨q, e, .levBad hk h⟩
  | stop hs =>
    intro n p hr ha d'
    cases hr
    exact ⟨ha, Nat.le_refl _, .inl fun L o E => .stop (E.none ha hs)⟩
  | chBad _ _ _ => intro n p hr; cases hr
  | chOver _ _ _ _ => intro n p hr; cases hr
  | chGo hs _ hj _ ih1 ih2 =>
    intro n p hr ha d'
    obtain ⟨a1, a2, a3⟩ := ih1 rfl (lt_of hs) d'
    obtain ⟨b1, b2, b3⟩ := ih2 hr a1 d'
    simp only [EvM.at_] at a2 b2 ⊢
    refine ⟨b1, by omega, ?_⟩
    rcases a3 with a3 | a3
    · rcases b3 with b3 | b3
      · exact .inl fun L o E => .chGo (E.sign hs) (a3 L o E) hj (b3 L o E)
      · exact .inr fun L o E => let ⟨q, e, h⟩ := b3 L o E; ⟨q, e, .chGo (E.sign hs) (a3 L o E) hj h⟩
    · exact .inr fun L o E => let ⟨q, e, h⟩ := a3 L o E; ⟨q, e, .chBad (E.sign hs) h⟩
  | long _ _ => intro n p hr; cases hr
  | neg hs hn hd _ hb ih =>
    intro n p hr ha d'
    cases hr
    obtain ⟨a1, a2, a3⟩ := ih rfl (lt_of hs) (d' + 1)
    simp only [EvM.at_] at a2 ⊢
    refine ⟨a1, by omega, ?_⟩
    by_cases hd' : d' ≤ 16
    · rcases a3 with a3 | a3
      · exact .inl fun L o E => .neg (E.sign hs) hn hd' (a3 L o E) hb
      · exact .inr fun L o E => let ⟨q, e, h⟩ := a3 L o E; ⟨q, e, .negBad (E.sign hs) hn hd' h⟩
    · exact .inr fun L o E => ⟨_, _, .long (E.sign hs) (by omega)⟩
  | negOver _ _ _ _ _ _ => intro n p hr; cases hr
  | negBad _ _ _ _ _ => intro n p hr; cases hr
  | par hs hd _ hz ih =>
    intro n p hr ha d'
    cases hr
    have hlt := lt_of hz
    obtain ⟨a1, a2, a3⟩ := ih rfl (lt_of hs) (d' + 1)
    simp only [EvM.at_] at a2 ⊢
    refine ⟨hlt, by omega, ?_⟩
    by_cases hd' : d' ≤ 16
    · rcases a3 with a3 | a3
      · exact .inl fun L o E => .par (E.sign hs) hd' (a3 L o E) (E.sign hz)
      · exact .inr fun L o E => let ⟨q, e, h⟩ := a3 L o E; ⟨q, e, .parBad (E.sign hs) hd' h⟩
    · exact .inr fun L o E => ⟨_, _, .long (E.sign hs) (by omega)⟩
  | parForm _ _ _ _ _ => intro n p hr; cases hr
  | parBad _ _ _ _ => intro n p hr; cases hr
  | atom ht hk =>
    intro n p hr ha d'
    have hlt := (List.getElem?_eq_some_iff.1 ht).1
    simp only [EvM.at_]
    have hp := (atomE_like (o := 0) (u := _) ⟨rfl, rfl, rfl⟩ hr).1
    refine ⟨by omega, by omega, .inl fun L o E => ?_⟩
    obtain ⟨u, hu, hl⟩ := E.on _ _ ht
    rw [← (atomE_like (o := o) hl hr).2]
    exact .atom hu (by rw [hl.1]; exact hk)
  | form _ _ => intro n p hr; cases hr
/-- From a stronger level to a weaker one, where no sign of those between stands behind. -/
theorem Ev.up {L : List Tok} {N : List (ByteArray × Int)} {a d p : Nat} {n : Int} (k : Nat) : ∀ (c : Nat), k + c ≤ 6 → Ev L N (.lev (k + c) a) d (.ok n p) → (∀ i, k ≤ i → i < k + c → signAt L p (lvS i) = none) → Ev L N (.lev k a) d (.ok n p)
  | 0, _, h, _ => h
  | c + 1, hc, h, hs => by
    refine Ev.up k c (by omega) ?_ (fun i h1 h2 => hs i h1 (by omega))
    exact .levOk (by omega) h (.stop (hs (k + c) (by omega) (by omega)))
theorem Ev.upBad {L : List Tok} {N : List (ByteArray × Int)} {a d p : Nat} {e : Int} (k : Nat) : ∀ (c : Nat), k + c ≤ 6 → Ev L N (.lev (k + c) a) d (.bad p e) → Ev L N (.lev k a) d (.bad p e)
  | 0, _, h => h
  | c + 1, hc, h => Ev.upBad k c (by omega) (.levBad (by omega) h)
/-- A sign of a level between two that stand alone. -/
theorem Ev.bin {L : List Tok} {N : List (ByteArray × Int)} {k d a p q : Nat} {x y z : Int} {s : ByteArray} (hk : k < 6) (h1 : Ev L N (.lev (k + 1) a) d (.ok x p)) (hs : signAt L p (lvS k) = some s)
    (h2 : Ev L N (.lev (k + 1) (p + 1)) d (.ok y q)) (he : signAt L q (lvS k) = none) (hj : joinE s x y = some z) : Ev L N (.lev k a) d (.ok z q) :=
  .levOk hk h1 (.chGo hs h2 hj (.stop he))
/-- Two signs of a level, the first one first. -/
theorem Ev.bin2 {L : List Tok} {N : List (ByteArray × Int)} {k d a p q r : Nat} {x y z u v : Int} {s t : ByteArray} (hk : k < 6) (h1 : Ev L N (.lev (k + 1) a) d (.ok x p)) (hs : signAt L p (lvS k) = some s)
    (h2 : Ev L N (.lev (k + 1) (p + 1)) d (.ok y q)) (hj : joinE s x y = some u) (ht : signAt L q (lvS k) = some t) (h3 : Ev L N (.lev (k + 1) (q + 1)) d (.ok z r)) (hj2 : joinE t u z = some v)
    (he : signAt L r (lvS k) = none) : Ev L N (.lev k a) d (.ok v r) :=
  .levOk hk h1 (.chGo hs h2 hj (.chGo ht h3 hj2 (.stop he)))
theorem Ev.binBad {L : List Tok} {N : List (ByteArray × Int)} {k d a p q : Nat} {x e : Int} {s : ByteArray} (hk : k < 6) (h1 : Ev L N (.lev (k + 1) a) d (.ok x p)) (hs : signAt L p (lvS k) = some s)
    (h2 : Ev L N (.lev (k + 1) (p + 1)) d (.bad q e)) : Ev L N (.lev k a) d (.bad q e) :=
  .levOk hk h1 (.chBad hs h2)
end Go.Proofs.YtcdepfdfemmfhaaDoor
