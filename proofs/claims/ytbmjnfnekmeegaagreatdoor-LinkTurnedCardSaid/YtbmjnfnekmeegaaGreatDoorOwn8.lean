/- Bytes that are one's own, in a row that grows; what a slice says can be appended. -/
import Derived.Test.YtbmjnfnekmeegaaGreatDoorGObjF
import Derived.Test.YtbmjnfnekmeegaaGreatDoorGBase
import Derived.Test.YtbmjnfnekmeegaaGreatDoorAppSrc
import Derived.Maps.AppendAt
import Derived.IntWalk
namespace Go.Proofs.YtbmjnfnekmeegaaGreatDoor
set_option linter.unusedVariables false
set_option linter.unusedSimpArgs false
open Go Go.RowKit
/-- Bytes that are one's own. -/
def Own8 (w : World) (B : Nat) (v : Value) (xs : List Nat) : Prop := w.ownsRow B 5 1 v xs.length (xs.map byteV)
/-- The row's block afterwards: as it was, or new. -/
def OwnTo (w : World) (r r' : Option Nat) : Prop := r' = r ∨ ∃ g, r' = some g ∧ w.heap.size ≤ g
theorem OwnTo.trans {w w1 : World} {r r1 r2 : Option Nat} (hs : w.heap.size ≤ w1.heap.size) (h : OwnTo w r r1) (k : OwnTo w1 r1 r2) : OwnTo w r r2 := by
  rcases k with rfl | ⟨g, rfl, hg⟩
  · exact h
  · exact .inr ⟨g, rfl, Nat.le_trans hs hg⟩
theorem grow_trans {w w1 w2 : World} {r r1 : Option Nat} (h : w.grownBy w1 r) (ho : OwnTo w r r1) (k : w1.grownBy w2 r1) : w.grownBy w2 r :=
  ⟨k.os.trans h.os, k.tape.trans h.tape, k.output.trans h.output, Nat.le_trans h.size k.size, fun j hj hr => by
    refine (k.block j (Nat.lt_of_lt_of_le hj h.size) ?_).trans (h.block j hj hr)
    rcases ho with rfl | ⟨g, rfl, hg⟩
    · exact hr
    · intro e
      simp only [Option.some.injEq] at e
      omega⟩
theorem grow_refl (w : World) (r : Option Nat) : w.grownBy w r := ⟨rfl, rfl, rfl, Nat.le_refl _, fun _ _ _ => rfl⟩
theorem keep_grow {w w' : World} (k : Keep w w') (r : Option Nat) : w.grownBy w' r := ⟨Below.os k, Below.tape k, Below.output k, k.size, fun j hj _ => Below.block k j hj⟩
/-- What stays from a world in which the row's block was not there. -/
theorem grow_keep0 {w0 w w' : World} {r : Option Nat} (k : Keep w0 w) (h : w.grownBy w' r) (hr : ∀ g, r = some g → w0.heap.size ≤ g) : Keep w0 w' := grown_keep k h hr
/-- What a writer of bytes answers. -/
def PutR (w : World) (B : Nat) (v0 : Value) (xs : List Nat) (e : Ending) (w' : World) : Prop := ∃ v, e = .returned v ∧ Own8 w' B v xs ∧ w.grownBy w' v0.ownBlock ∧ OwnTo w v0.ownBlock v.ownBlock
theorem byte_cell (w : World) (c : Int) (t : TypeId) : ∀ j u, [Value.int .u8 c][j]? = some u → (w.alloc (.cells #[.int .u8 c] t)).cell? ((⟨w.heap.size, 0, none⟩ : Addr).add j) = some u := cell_one_new w _ t
theorem own8_one {w : World} {B : Nat} {v : Value} {xs : List Nat} {c : Int} {y : Nat} (hc : c = (y : Int)) (h : w.ownsRow B 5 1 v (xs.length + 1) (xs.map byteV ++ [.int .u8 c])) : Own8 w B v (xs ++ [y]) := by
  subst hc
  unfold Own8
  simpa [byteV] using h
/-- One append more, of what was just laid. -/
theorem put_step {w W w1 : World} {r0 r r1 : Option Nat} {o : Obj} (G : w.grownBy W r0) (O : OwnTo w r0 r) (hg : (W.alloc o).grownBy w1 r) (hb : r1 = r ∨ ∃ g, r1 = some g ∧ W.heap.size ≤ g) : w.grownBy w1 r0 ∧ OwnTo w r0 r1 := by
  refine ⟨grow_trans (grow_trans G O (World.grownBy_alloc W o r)) (O.trans (Nat.le_refl _) (.inl rfl)) hg, ?_⟩
  rcases hb with rfl | ⟨g, rfl, hg⟩
  · exact O
  · exact .inr ⟨_, rfl, Nat.le_trans G.size hg⟩
/-- What lies where a slice says can be appended. -/
theorem SlAt.src {P : Program} {tx e : TypeId} (hk : P.underlying tx = some (.slice e)) {w : World} {v : Value} {l : List Nat} (h : SlAt w v l.length (l.map byteV)) : Src P 1 tx v l.length (l.map byteV) w := by
  obtain ⟨p, cap, rfl, _, _, h3⟩ := h
  have one : ∀ u ∈ l.map byteV, u.oneCell' = true := fun u hu => by
    obtain ⟨x, _, rfl⟩ := List.mem_map.1 hu
    rfl
  rcases h3 with h3 | ⟨b, off, rfl, _, h5⟩
  · have hl : l = [] := List.map_eq_nil_iff.1 h3
    subst hl
    cases p with
    | none => exact Src.ofNil w hk cap
    | some a => exact Src.ofSlice w hk a 0 cap [] rfl (fun j u hj => by simp at hj) (fun u hu => by cases hu)
  · refine Src.ofSlice w hk _ _ cap _ (by simp) (fun j u hj => ?_) one
    rw [show (⟨b, off, none⟩ : Addr).add j = ⟨b, off + j, none⟩ by unfold Addr.add; split <;> simp_all]
    exact h5 j u hj
theorem Own8.lt {w : World} {B : Nat} {v : Value} {xs : List Nat} (h : Own8 w B v xs) : ∀ g, v.ownBlock = some g → B ≤ g ∧ g < w.heap.size := World.ownsRow.lt h
/-- One append more. -/
theorem put_more {w W w1 : World} {r0 r r1 : Option Nat} (G : w.grownBy W r0) (O : OwnTo w r0 r) (hg : W.grownBy w1 r) (hb : r1 = r ∨ ∃ g, r1 = some g ∧ W.heap.size ≤ g) : w.grownBy w1 r0 ∧ OwnTo w r0 r1 :=
  ⟨grow_trans G O hg, O.trans G.size hb⟩
end Go.Proofs.YtbmjnfnekmeegaaGreatDoor
