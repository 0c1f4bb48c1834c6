/- Errors of objects, of images, as values; no error that is told is 0. -/
import Derived.Test.YtbmjnfnekmeegaaGreatDoorGPlainO
import Derived.Test.YtbmjnfnekmeegaaGreatDoorGTell
namespace Go.Proofs.YtbmjnfnekmeegaaGreatDoor
set_option linter.unusedVariables false
set_option linter.unusedSimpArgs false
open Go Go.RowKit
structure OPreOk (Pre : World → Prop) : Prop where
  keep : ∀ {w w' : World}, Pre w → Keep w w' → Pre w'
  errT : ∀ {w : World}, Pre w → ErrT w
def OErr (w : World) (u : Value) (x : WrV) : Prop := ErrV w u (wrVal x)
def decW (l : List Nat) : WrV := match decL l with
  | .ok _ => okW
  | .error x => x
def Nz {α : Type} (f : List Nat → Nat → Rd α) : Prop := ∀ (l : List Nat) (at_ : Nat) (e : Int × Int), f l at_ = .error e → e.2 ≠ 0
theorem take_nz (n : Nat) : Nz fun l at_ => takeR l n at_ := by
  intro l at_ e h
  simp only [takeR] at h
  split at h
  · cases h
  · simp only [Except.error.injEq] at h
    rw [← h]; exact (by decide : (16 : Int) ≠ 0)
theorem then_nz {α β : Type} {f : List Nat → Nat → Rd α} {g : List Nat → α → Nat → Rd β} (hf : Nz f) (hg : ∀ a, Nz fun l p => g l a p) : Nz fun l at_ => thenR (f l at_) (g l) := by
  intro l at_ e h
  simp only at h
  unfold thenR at h
  split at h
  · rename_i e' he
    simp only [Except.error.injEq] at h
    subst h
    exact hf l at_ _ he
  · exact hg _ l _ e h
theorem ok_nz {α : Type} (v : α) : Nz fun _ p => (.ok (v, p) : Rd α) := fun _ _ _ h => nomatch h
theorem head_nz (h : List Nat) : Nz fun l at_ => headR l h at_ := then_nz (take_nz 4) fun b l at_ e hh => by
  simp only at hh
  split at hh
  · cases hh
  · simp only [Except.error.injEq] at hh; rw [← hh]; exact (by decide : (11 : Int) ≠ 0)
theorem byte_nz : Nz byteR := then_nz (take_nz 1) fun b => ok_nz _
theorem num_nz : Nz numR := then_nz (take_nz 4) fun b => ok_nz _
theorem str_nz : Nz strR := then_nz byte_nz fun n => then_nz (take_nz n) fun b => ok_nz _
theorem most_nz (m : Nat) (c : Int) (hc : c ≠ 0) : Nz fun l at_ => mostR l m c at_ := by
  intro l at_ e h
  simp only [mostR] at h
  unfold thenR at h
  split at h
  · rename_i e' he
    simp only [Except.error.injEq] at h
    subst h
    exact num_nz l at_ _ he
  · simp only at h
    split at h
    · simp only [Except.error.injEq] at h; rw [← h]; exact hc
    · cases h
theorem upto_nz (a b : Nat) : Nz fun l at_ => uptoR l a b at_ := by
  intro l at_ e h
  simp only [uptoR] at h
  unfold thenR at h
  split at h
  · rename_i e' he
    simp only [Except.error.injEq] at h
    subst h
    exact byte_nz l at_ _ he
  · simp only at h
    split at h
    · simp only [Except.error.injEq] at h; rw [← h]; exact (by decide : (11 : Int) ≠ 0)
    · cases h
theorem sym_nz : Nz symR := then_nz str_nz fun _ => then_nz (upto_nz 0 3) fun _ => then_nz num_nz fun _ => ok_nz _
theorem rel_nz : Nz relR := then_nz (upto_nz 1 3) fun _ => then_nz num_nz fun _ => then_nz str_nz fun _ => then_nz str_nz fun _ => then_nz (most_nz 65535 11 (by decide)) fun _ => ok_nz _
theorem many_nz {α : Type} {f : List Nat → Nat → Rd α} (hf : Nz f) : ∀ (n : Nat), Nz fun l at_ => manyR (f l) n at_
  | 0 => fun _ _ _ h => nomatch h
  | n + 1 => then_nz hf fun _ => then_nz (many_nz hf n) fun _ => ok_nz _
theorem obj_nz {l : List Nat} {e : Int × Int} (h : objR l = .error e) : e.2 ≠ 0 := by
  have hb : Nz fun l (at_ : Nat) => thenR (headR l hobj at_) fun _ p => thenR (strR l p) fun name p => thenR (mostR l 16384 15 p) fun n p => thenR (takeR l n p) fun code p =>
      thenR (mostR l 16384 15 p) fun n p => thenR (takeR l n p) fun data p => thenR (mostR l 256 15 p) fun n p => thenR (manyR (symR l) n p) fun syms p =>
      thenR (mostR l 256 15 p) fun n p => thenR (manyR (relR l) n p) fun rels p => (.ok ((⟨name, code, data, syms, rels⟩ : ObjV), p) : Rd ObjV) :=
    then_nz (head_nz hobj) fun _ => then_nz str_nz fun _ => then_nz (most_nz 16384 15 (by decide)) fun n => then_nz (take_nz n) fun _ => then_nz (most_nz 16384 15 (by decide)) fun n => then_nz (take_nz n) fun _ =>
      then_nz (most_nz 256 15 (by decide)) fun n => then_nz (many_nz sym_nz n) fun _ => then_nz (most_nz 256 15 (by decide)) fun n => then_nz (many_nz rel_nz n) fun _ => ok_nz _
  exact hb l 0 e h
theorem dec_nz {l : List Nat} {x : WrV} (h : decL l = .error x) : x.2.2 ≠ 0 := by
  unfold decL at h
  split at h
  · rename_i a e he
    simp only [Except.error.injEq] at h
    rw [← h]; exact obj_nz he
  · split at h
    · simp only [Except.error.injEq] at h; rw [← h]; exact (by decide : (11 : Int) ≠ 0)
    · split at h
      · cases h
      · rename_i hz
        simp only [Except.error.injEq] at h
        rw [← h]; exact hz
/-- An error that is told is no nil. -/
theorem OErr.bad {w : World} {u : Value} {x : WrV} (h : OErr w u x) (hx : x.2.2 ≠ 0) : ∃ q, u = faultP q := by
  rcases h with ⟨h, _⟩ | ⟨q, _, _, _, _, _, h, _⟩
  · exfalso
    apply hx
    unfold wrVal okV wrongV at h
    simp at h
    exact h.2.2
  · exact ⟨q, h⟩
theorem OErr.good {w : World} {u : Value} {x : WrV} (h : OErr w u x) (hx : x.2.2 = 0) : u = .nilIface := by
  rcases h with ⟨_, h⟩ | ⟨q, p, a, n, hn, he, h, _⟩
  · exact h
  · exfalso
    apply hn
    unfold wrVal wrongV at he
    simp at he
    rw [← he.2.2]; exact hx
end Go.Proofs.YtbmjnfnekmeegaaGreatDoor
