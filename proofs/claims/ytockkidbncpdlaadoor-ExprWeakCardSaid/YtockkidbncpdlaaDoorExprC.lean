/- What the program's expr.Eval is to answer; hasplaw13's known, whole, over that. -/
import Derived.Test.YtockkidbncpdlaaDoorToks
import Derived.Test.YtockkidbncpdlaaDoorEvRun
import Derived.Test.YtockkidbncpdlaaDoorLexCat
import Derived.Test.YtockkidbncpdlaaDoorLineP
namespace Go.Proofs.YtockkidbncpdlaaDoor
set_option linter.unusedVariables false
set_option linter.unusedSimpArgs false
open Go.RowKit
def EvalP (toks : List Tok) (names : List (ByteArray × Int)) (at_ : Nat) (w : World) (e : Ending) (w' : World) : Prop :=
  Keep w w' ∧ ((∃ (v : Int) (p : Nat), Ev toks names (.lev 0 at_) 0 (.ok v p) ∧ InB v ∧ p ≤ toks.length ∧ e = .returned (.tuple #[.int .i64 v, .int .i64 p, .nilIface])) ∨
    ∃ (p : Nat) (x : Int) (q : Nat), Ev toks names (.lev 0 at_) 0 (.bad p x) ∧ x ≠ 0 ∧ e = .returned (.tuple #[.int .i64 0, .int .i64 0, faultP q]) ∧ faultB w' q tokenS p x)
def PEval : Prop := ∀ (p : Option Addr) (cap : Nat) (q : Option Addr) (capN : Nat) (toks : List Tok) (names : List (ByteArray × Int)) (at_ : Nat), at_ ≤ toks.length → toks.length ≤ 1000 → names.length ≤ 1000 → toks.length ≤ cap → names.length ≤ capN →
  (∀ t ∈ toks, TokOk t) → (∀ x ∈ names, -9223372036854775808 ≤ x.2 ∧ x.2 ≤ 9223372036854775807) → ∀ (w : World), RowAt w p (tokRows toks) → NamesAt w q names → Pre w →
  Calls Tryd.prog 10 #[.slice p toks.length cap, .int .i64 at_, .slice q names.length capN] w (EvalP toks names at_ w)
/-- known's text. -/
def kS : ByteArray := ⟨#[50, 32, 43, 32, 51, 32, 42, 32, 97, 32, 45, 32, 40, 49, 32, 60, 60, 32, 52, 41, 44, 32, 55]⟩
def kToks : List Tok := [⟨2, ⟨#[50]⟩, 2, 0⟩, ⟨3, ⟨#[43]⟩, 0, 2⟩, ⟨2, ⟨#[51]⟩, 3, 4⟩, ⟨3, ⟨#[42]⟩, 0, 6⟩, ⟨1, ⟨#[97]⟩, 0, 8⟩, ⟨3, ⟨#[45]⟩, 0, 10⟩, ⟨3, ⟨#[40]⟩, 0, 12⟩, ⟨2, ⟨#[49]⟩, 1, 13⟩, ⟨3, ⟨#[60, 60]⟩, 0, 15⟩, ⟨2, ⟨#[52]⟩, 4, 18⟩, ⟨3, ⟨#[41]⟩, 0, 19⟩, ⟨3, ⟨#[44]⟩, 0, 20⟩, ⟨2, ⟨#[55]⟩, 7, 22⟩]
theorem kLex : lexL kS.data.toList 0 = .ok kToks := by kernel_rfl
theorem kEv1 : Ev kToks [(⟨#[97]⟩, 5)] (.lev 0 0) 0 (.ok 1 11) := evF_is 100 _ _ _ (by kernel_rfl)
theorem kEv2 : Ev kToks [] (.lev 0 0) 0 (.bad 4 12) := evF_is 100 _ _ _ (by kernel_rfl)
theorem kOk : ∀ t ∈ kToks, TokOk t := fun t ht => ((lexL_toks _ _ _ _ (Nat.le_refl _) kLex).1 t ht).1
set_option maxHeartbeats 1000000 in
theorem known_any (hL : PLine) (hE : PEval) (w : World) (hP : Pre w) : Calls Tryd.prog 6 #[] w fun e w' => e = .returned (.bool true) ∧ Keep w w' := by
  have HP := Lib.hid hP
  have HE := Lib.hid hE
  clear hP hE
  go_enter Tryd.func6, Tryd.ntmps6
  go_wp2_with fail
  refine (hL kS _ (by decide) HP.out).mono ?_
  intro e w1 h
  unfold LineP at h
  rw [kLex] at h
  obtain ⟨v, rfl, ho, hk1⟩ := h
  obtain ⟨p, cap, rfl, hc, hr⟩ := own_at ho
  have K1 := Lib.hid hk1
  have R1 := Lib.hid hr
  have HC := Lib.hid hc
  clear ho hr hk1 hc hL
  go_wp2_with fail
  refine (HE.out p cap (some ⟨w1.heap.size, 0, none⟩) 1 kToks [(⟨#[97]⟩, 5)] 0 (by decide) (by decide) (by decide) HC.out (by decide) kOk (by intro x hx; simp at hx; subst hx; decide) _ (R1.out.keep ((Keep.refl _).alloc _)) (RowAt.names (.inr ⟨_, _, rfl, Box.new _ _ _, fun i hi => ?_⟩)) (HP.out.keep (K1.out.alloc _))).mono ?_
  · match i, hi with
    | 0, _ => rfl
    | 1, _ => rfl
    | (n + 2), hi => simp [nameRows] at hi; omega
  rintro e w2 ⟨hk2, ⟨v, z, hev, hv, hz, rfl⟩ | ⟨z, x, q, hev, hx, rfl, hf⟩⟩
  · have hs := Ev.same kEv1 hev
    cases hs
    have K2 := Lib.hid ((K1.out.alloc _).trans hk2)
    have R2 := Lib.hid (R1.out.keep (((Keep.refl _).alloc _).trans hk2))
    clear hk2 hev hv hz
    go_wp2_with fail
    refine (HE.out p cap none 0 kToks [] 0 (by decide) (by decide) (by decide) HC.out (by decide) kOk (by intro x hx; simp at hx) _ R2.out (.inl rfl) (HP.out.keep K2.out)).mono ?_
    rintro e w3 ⟨hk3, ⟨v, z, hev, hv, hz, rfl⟩ | ⟨z, x, q, hev, hx, rfl, hf⟩⟩
    · have hs := Ev.same kEv2 hev
      cases hs
    · have hs := Ev.same kEv2 hev
      cases hs
      have K3 := Lib.hid (K2.out.trans hk3)
      have CT := Lib.hid (tells_any (faultP q) (wrongV tokenS 4 12) w3 (.inr ⟨q, tokenS, 4, 12, by decide, rfl, rfl, hf⟩) (HP.out.keep K3.out).errT)
      unfold faultP wrongV tokenS at CT
      unfold faultP
      clear hk3 hev hf hx
      go_wp2_with fail
      refine CT.out.mono ?_
      rintro e w4 ⟨rfl, hk4⟩
      have K4 := Lib.hid (K3.out.trans hk4)
      clear hk4
      go_wp2_with fail
      go_ret
      exact ⟨rfl, K4.out⟩
  · have hs := Ev.same kEv1 hev
    cases hs
end Go.Proofs.YtockkidbncpdlaaDoor
