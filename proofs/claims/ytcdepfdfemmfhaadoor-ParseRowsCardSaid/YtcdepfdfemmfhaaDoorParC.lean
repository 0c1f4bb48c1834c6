/- What the program's parse.Parse, Reg, Mem are to answer; hasplaw14's known, over that. Pre: what is laid ahead of a call (any predicate that lasts and holds errors.errorType). -/
import Derived.Test.YtcdepfdfemmfhaaDoorParRef
import Derived.Test.YtcdepfdfemmfhaaDoorParSameL
import Derived.Test.YtcdepfdfemmfhaaDoorGTell
namespace Go.Proofs.YtcdepfdfemmfhaaDoor
set_option linter.unusedVariables false
set_option linter.unusedSimpArgs false
open Go.RowKit
structure PreOk (Pre : World → Prop) : Prop where
  keep : ∀ {w w' : World}, Pre w → Keep w w' → Pre w'
  errT : ∀ {w : World}, Pre w → ErrT w
def fltB (w : World) (q : Nat) (part : ByteArray) (at_ n : Int) : Prop := Box w q #[.string part, .int .i64 at_, .iface 55 (.int .i64 n)]
def lineV (q : PLn) (v : Value) : Value := .agg #[.string q.label, .string q.name, .bool q.dot, v]
def noLine : PLn := ⟨⟨#[]⟩, ⟨#[]⟩, false, []⟩
def ParseP (l : List UInt8) (w : World) (e : Ending) (w' : World) : Prop := Keep w w' ∧ match lexL l 0 with
  | .error (i, x) => ∃ v q, e = .returned (.tuple #[lineV noLine v, faultP q]) ∧ ArgsAt w' v [] ∧ fltB w' q colS i x
  | .ok ts => match lineL ts with
    | .error (p, x) => ∃ v q, e = .returned (.tuple #[lineV noLine v, faultP q]) ∧ ArgsAt w' v [] ∧ fltB w' q tokS p x
    | .ok y => ∃ v, e = .returned (.tuple #[lineV y v, .nilIface]) ∧ ArgsAt w' v y.args
def PParse (Pre : World → Prop) : Prop := ∀ (s : ByteArray) (w : World), s.size ≤ 1000 → Pre w → Calls Tryd.prog 6 #[.string s] w (ParseP s.data.toList w)
def PReg : Prop := ∀ (v : Value) (l : List Tok) (w : World), l.length ≤ 10000 → TokAt w v l → Calls Tryd.prog 7 #[v] w fun e w' => e = .returned (regV (regL l)) ∧ Keep w w'
/-- What Mem answers: no register: nothing, in no place. -/
def MemP (l : List Tok) (e : Ending) (w' : World) : Prop := match memL l with
  | none => ∃ v, e = .returned (.tuple #[v, .int .i64 0, .bool false]) ∧ TokAt w' v []
  | some (m, r) => ∃ v, e = .returned (.tuple #[v, .int .i64 r, .bool true]) ∧ TokAt w' v m
def PMem : Prop := ∀ (v : Value) (l : List Tok) (w : World), l.length ≤ 10000 → TokAt w v l → Calls Tryd.prog 8 #[v] w fun e w' => MemP l e w' ∧ Keep w w'
-- known's texts
def kp1 : ByteArray := ⟨#[120, 58, 32, 108, 119, 32, 99, 49, 44, 32, 52, 43, 50, 40, 99, 50, 41]⟩
def kp2 : ByteArray := ⟨#[99, 49, 58, 32, 110, 111, 112]⟩
def kp3 : ByteArray := ⟨#[46, 119, 111, 114, 100, 32, 49, 44, 32, 40, 50, 44, 32, 51, 41]⟩
def ka0 : List Tok := [⟨1, ⟨#[99, 49]⟩, 0, 6⟩]
def ka1 : List Tok := [⟨2, ⟨#[52]⟩, 4, 10⟩, ⟨3, ⟨#[43]⟩, 0, 11⟩, ⟨2, ⟨#[50]⟩, 2, 12⟩, ⟨3, ⟨#[40]⟩, 0, 13⟩, ⟨1, ⟨#[99, 50]⟩, 0, 14⟩, ⟨3, ⟨#[41]⟩, 0, 16⟩]
def kw0 : List Tok := [⟨2, ⟨#[49]⟩, 1, 6⟩]
def kw1 : List Tok := [⟨3, ⟨#[40]⟩, 0, 9⟩, ⟨2, ⟨#[50]⟩, 2, 10⟩, ⟨3, ⟨#[44]⟩, 0, 11⟩, ⟨2, ⟨#[51]⟩, 3, 13⟩, ⟨3, ⟨#[41]⟩, 0, 14⟩]
def lineOf (l : List UInt8) : Except (Nat × Int) PLn := match lexL l 0 with
  | .error x => .error x
  | .ok ts => lineL ts
theorem kl1 : lineOf kp1.data.toList = .ok ⟨⟨#[120]⟩, ⟨#[108, 119]⟩, false, [ka0, ka1]⟩ := by kernel_rfl
theorem kl2 : lineOf kp2.data.toList = .error (0, 12) := by kernel_rfl
theorem kl2a : (match lexL kp2.data.toList 0 with | .ok _ => true | .error _ => false) = true := by kernel_rfl
theorem kl3 : lineOf kp3.data.toList = .ok ⟨⟨#[]⟩, ⟨#[119, 111, 114, 100]⟩, true, [kw0, kw1]⟩ := by kernel_rfl
theorem km : memL ka1 = some (ka1.take 3, 2) := by kernel_rfl
theorem kr : regL ka0 = some 1 := by kernel_rfl
theorem ParseP.good {l : List UInt8} {w w' : World} {e : Ending} {y : PLn} (h : ParseP l w e w') (hl : lineOf l = .ok y) : ∃ v, e = .returned (.tuple #[lineV y v, .nilIface]) ∧ ArgsAt w' v y.args ∧ Keep w w' := by
  obtain ⟨k, h⟩ := h
  unfold lineOf at hl
  cases hx : lexL l 0 with
  | error x => rw [hx] at hl; cases hl
  | ok ts =>
    rw [hx] at h hl
    have hl : lineL ts = .ok y := hl
    dsimp only at h
    rw [hl] at h
    obtain ⟨v, a, b⟩ := h
    exact ⟨v, a, b, k⟩
theorem ParseP.wrong {l : List UInt8} {w w' : World} {e : Ending} {p : Nat} {x : Int} (h : ParseP l w e w') (hl : lineOf l = .error (p, x)) (hok : (match lexL l 0 with | .ok _ => true | .error _ => false) = true) : ∃ v q, e = .returned (.tuple #[lineV noLine v, faultP q]) ∧ ArgsAt w' v [] ∧ fltB w' q tokS p x ∧ Keep w w' := by
  obtain ⟨k, h⟩ := h
  unfold lineOf at hl
  cases hx : lexL l 0 with
  | error x => rw [hx] at hok; cases hok
  | ok ts =>
    rw [hx] at h hl
    have hl : lineL ts = .error (p, x) := hl
    dsimp only at h
    rw [hl] at h
    obtain ⟨v, q, a, b, c⟩ := h
    exact ⟨v, q, a, b, c, k⟩
theorem ArgsAt.get {w : World} {v : Value} {args : List (List Tok)} (h : ArgsAt w v args) {i : Nat} {l : List Tok} (hl : args[i]? = some l) : ∃ b off cap x y, v = .slice (some ⟨b, off, none⟩) args.length cap ∧ b < w.heap.size ∧ w.cell? ⟨b, off + i, none⟩ = some (.slice x l.length y) ∧ TokAt w (.slice x l.length y) l := by
  obtain ⟨p, cap, rfl, _, h0 | ⟨b, off, rfl, hb, hx⟩⟩ := h
  · rw [h0] at hl; simp at hl
  · obtain ⟨sv, c, t⟩ := hx i l hl
    obtain ⟨x, y, rfl⟩ := t.slice
    exact ⟨b, off, cap, x, y, rfl, hb, c, t⟩
end Go.Proofs.YtcdepfdfemmfhaaDoor
