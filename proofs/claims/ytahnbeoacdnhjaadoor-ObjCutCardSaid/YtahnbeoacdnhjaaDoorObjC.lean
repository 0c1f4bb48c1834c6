/- What the program's obj is to answer; nothing that is wrong has the error 0. Pre: what is laid ahead of a call (any predicate that lasts and holds errors.errorType). -/
import Derived.Test.YtahnbeoacdnhjaaDoorObjChk
import Derived.Test.YtahnbeoacdnhjaaDoorObjOf
import Derived.Test.YtahnbeoacdnhjaaDoorObjFew
import Derived.Test.YtahnbeoacdnhjaaDoorGTell
import Derived.Test.YtahnbeoacdnhjaaDoorObjNz
namespace Go.Proofs.YtahnbeoacdnhjaaDoor
set_option linter.unusedVariables false
set_option linter.unusedSimpArgs false
open Go.RowKit
def PObjName : Prop := ∀ (s : ByteArray) (w : World), s.size ≤ 1000 → Calls Tryd.prog 14 #[.string s] w fun e w' => e = .returned (.bool (goodB s)) ∧ Keep w w'
def PObjCheck (Pre : World → Prop) : Prop := ∀ (o : ObjV) (vc vd vs vr : Value) (w : World), ObjAt w o vc vd vs vr → ObjNum o → ObjFew o → Pre w →
  Calls Tryd.prog 13 #[objVal o vc vd vs vr] w fun e w' => Keep w w' ∧ ∃ u, e = .returned u ∧ OErr w' u (objW o)
def PObjEncode (Pre : World → Prop) : Prop := ∀ (o : ObjV) (vc vd vs vr : Value) (w : World), ObjAt w o vc vd vs vr → ObjNum o → ObjFew o → Pre w →
  Calls Tryd.prog 8 #[objVal o vc vd vs vr] w fun e w' => Keep w w' ∧ ∃ p n cap u, e = .returned (.tuple #[.slice p n cap, u]) ∧ OErr w' u (objW o) ∧ ((objW o).2.2 = 0 → n = (encL o).length ∧ SlAt w' (.slice p n cap) n ((encL o).map byteV))
def PObjDecode (Pre : World → Prop) : Prop := ∀ (v : Value) (l : List Nat) (w : World), SlAt w v l.length (l.map byteV) → (∀ x ∈ l, x < 256) → l.length ≤ 100000 → Pre w →
  Calls Tryd.prog 9 #[v] w fun e w' => Keep w w' ∧ ∃ (o : ObjV) (vc vd vs vr u : Value), e = .returned (.tuple #[objVal o vc vd vs vr, u]) ∧ ObjAt w' o vc vd vs vr ∧ OErr w' u (decW l) ∧ ∀ y, decL l = .ok y → o = y
def PObjFind : Prop := ∀ (o : ObjV) (vc vd vs vr : Value) (n : ByteArray) (w : World), ObjAt w o vc vd vs vr → ObjNum o → ObjFew o → n.size ≤ 1000 →
  Calls Tryd.prog 10 #[objVal o vc vd vs vr, .string n] w fun e w' => FindR o.syms n e ∧ Keep w w'
def PObjSame : Prop := ∀ (o p : ObjV) (vc vd vs vr uc ud us ur : Value) (w : World), ObjAt w o vc vd vs vr → ObjAt w p uc ud us ur → ObjNum o → ObjNum p → ObjFew o → ObjFew p →
  Calls Tryd.prog 11 #[objVal o vc vd vs vr, objVal p uc ud us ur] w fun e w' => ∃ b, e = .returned (.bool b) ∧ (b = true ↔ o = p) ∧ Keep w w'
/-! ### No error is 0 -/
theorem encL_lt {o : ObjV} (ho : ObjNum o) (hk : ObjOk o) (hf : ObjFew o) : (∀ x ∈ encL o, x < 256) ∧ (encL o).length ≤ 20000 ∧ 16 ≤ (encL o).length := by
  have hstr : ∀ s : ByteArray, s.size ≤ 100 → (∀ x ∈ strB s, x < 256) ∧ (strB s).length ≤ 101 := fun s hs => by
    refine ⟨fun x hx => ?_, by simp [strB]; omega⟩
    simp only [strB, List.mem_cons, List.mem_map] at hx
    rcases hx with rfl | ⟨c, _, rfl⟩
    · omega
    · have := c.toNat_lt; omega
  have hnum : ∀ n x, x ∈ num4 n → x < 256 := fun n x hx => by
    simp only [num4, List.mem_cons, List.not_mem_nil, or_false] at hx
    omega
  have hfl : ∀ s : SymV, flagB s < 256 := fun s => by unfold flagB; split <;> split <;> omega
  have len_flat : ∀ {α : Type} (f : α → List Nat) (m : Nat) (l : List α), (∀ a ∈ l, (f a).length ≤ m) → (l.flatMap f).length ≤ l.length * m := fun f m l => by
    induction l with
    | nil => intro _; simp
    | cons a l ih =>
      intro h
      have h1 := h a (by simp)
      have h2 := ih (fun b hb => h b (by simp [hb]))
      rw [List.flatMap_cons, List.length_append, List.length_cons, Nat.add_mul]
      omega
  have hsl : (o.syms.flatMap symB).length ≤ o.syms.length * 106 := len_flat symB 106 _ fun s hs => by
    have := (hstr s.name (hf.symN s hs)).2
    simp only [symB, List.length_append, List.length_cons, num4_length]; omega
  have hrl : (o.rels.flatMap relB).length ≤ o.rels.length * 211 := len_flat relB 211 _ fun r hr => by
    have := (hstr r.comp (hf.relC r hr)).2
    have := (hstr r.name (hf.relN r hr)).2
    simp only [relB, List.length_append, List.length_cons, num4_length]; omega
  have hn := hstr o.name hf.name
  have f1 := hf.code
  have f2 := hf.data
  have f3 := hf.syms
  have f4 := hf.rels
  refine ⟨fun x hx => ?_, ?_, ?_⟩
  · simp only [encL, List.mem_append, List.mem_flatMap] at hx
    rcases hx with h | h | h | h | h | h | h | ⟨s, hs, h⟩ | h | ⟨r, hr, h⟩
    · simp only [hobj, List.mem_cons, List.not_mem_nil, or_false] at h; omega
    · exact hn.1 x h
    · exact hnum _ x h
    · exact ho.code x h
    · exact hnum _ x h
    · exact ho.data x h
    · exact hnum _ x h
    · simp only [symB, List.mem_append, List.mem_cons] at h
      rcases h with h | rfl | h
      · exact (hstr _ (hf.symN s hs)).1 x h
      · exact hfl s
      · exact hnum _ x h
    · exact hnum _ x h
    · have := (hk.rels r hr).2.1
      simp only [relB, List.mem_append, List.mem_cons] at h
      rcases h with rfl | h | h | h | h
      · omega
      · exact hnum _ x h
      · exact (hstr _ (hf.relC r hr)).1 x h
      · exact (hstr _ (hf.relN r hr)).1 x h
      · exact hnum _ x h
  · simp only [encL, List.length_append, num4_length]
    have : hobj.length = 4 := rfl
    omega
  · simp only [encL, List.length_append, num4_length]
    have : hobj.length = 4 := rfl
    omega
end Go.Proofs.YtahnbeoacdnhjaaDoor
