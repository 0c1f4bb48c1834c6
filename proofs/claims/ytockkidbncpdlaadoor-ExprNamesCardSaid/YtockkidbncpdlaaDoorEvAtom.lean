/- The reference's unary, where no sign stands ahead: a number, a name, or neither. -/
import Derived.Test.YtockkidbncpdlaaDoorEvJoin2
import Derived.Test.YtockkidbncpdlaaDoorEvMath
namespace Go.Proofs.YtockkidbncpdlaaDoor
set_option linter.unusedVariables false
set_option linter.unusedSimpArgs false
open Go.RowKit
/-- What a reading leaves. -/
def EvPost (r : Rdr) (m : EvM) (d : Nat) (w : World) (x : Ending) (w' : World) : Prop :=
  KeepBut (fun z => z = r.b) w w' ∧
  ((∃ n p, Ev r.toks r.names m d (.ok n p) ∧ x = .returned (.int .i64 n) ∧ InB n ∧ m.at_ ≤ p ∧ p ≤ r.toks.length ∧ r.Ok w' p) ∨
   (∃ (p : Nat) (e v : Int), Ev r.toks r.names m d (.bad p e) ∧ x = .returned (.int .i64 v) ∧ InB v ∧ r.Bad w' p e))
theorem EvPost.ok {r : Rdr} {m : EvM} {d : Nat} {w w' : World} {n : Int} {p : Nat} (h : Ev r.toks r.names m d (.ok n p)) (hn : InB n) (h1 : m.at_ ≤ p) (h2 : p ≤ r.toks.length) (k : KeepBut (fun z => z = r.b) w w') (ho : r.Ok w' p) : EvPost r m d w (.returned (.int .i64 n)) w' :=
  ⟨k, .inl ⟨n, p, h, rfl, hn, h1, h2, ho⟩⟩
theorem EvPost.bad {r : Rdr} {m : EvM} {d : Nat} {w w' : World} {p : Nat} {e v : Int} (h : Ev r.toks r.names m d (.bad p e)) (hn : InB v) (k : KeepBut (fun z => z = r.b) w w') (ho : r.Bad w' p e) : EvPost r m d w (.returned (.int .i64 v)) w' :=
  ⟨k, .inr ⟨p, e, v, h, rfl, hn, ho⟩⟩
theorem InB.zero : InB 0 := by unfold InB; omega
theorem Rdr.Ok.next {r : Rdr} {w : World} {a : Int} (h : r.Ok w a) (b : Int) : r.Ok (w.setCell ⟨r.b, 1, none⟩ (.int .i64 b)) b := by
  unfold Rdr.Ok Rdr.cells at h ⊢
  simpa using Box.set h 1 (.int .i64 b)
theorem nameE_at (s : ByteArray) (n : Int) : ∀ (l : List (ByteArray × Int)) (k : Nat), l[k]? = some (s, n) → (∀ (j : Nat) (x : ByteArray × Int), j < k → l[j]? = some x → x.1 ≠ s) → nameE l s = some n
  | [], k, h, _ => by simp at h
  | (x, m) :: l, 0, h, _ => by
    simp at h
    obtain ⟨rfl, rfl⟩ := h
    simp [nameE]
  | (x, m) :: l, k + 1, h, hn => by
    have h0 := hn 0 (x, m) (by omega) rfl
    unfold nameE
    rw [if_neg h0]
    exact nameE_at s n l k (by simpa using h) fun j y hj hy => hn (j + 1) y (by omega) (by simpa using hy)
theorem nameE_no (s : ByteArray) : ∀ (l : List (ByteArray × Int)), (∀ (j : Nat) (x : ByteArray × Int), l[j]? = some x → x.1 ≠ s) → nameE l s = none
  | [], _ => rfl
  | (x, m) :: l, hn => by
    unfold nameE
    rw [if_neg (hn 0 (x, m) rfl)]
    exact nameE_no s l fun j y hy => hn (j + 1) y (by simpa using hy)
theorem unS_box (w : World) : Box (w.alloc (.cells #[.string ⟨#[45]⟩, .string ⟨#[126]⟩, .string ⟨#[40]⟩] 9)) w.heap.size (unS.map Value.string).toArray := Box.new _ _ _
end Go.Proofs.YtockkidbncpdlaaDoor
