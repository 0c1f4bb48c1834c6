/- The reference's memory: what lies there, as plain lists; and 'all stays but these blocks'. -/
import Derived.Test.YtnnelghngekbpaaDoorRefGet
namespace Go.Proofs.YtnnelghngekbpaaDoor
set_option linter.unusedVariables false
set_option linter.unusedSimpArgs false
open Go.RowKit

/-- What was there stays, but for the blocks that S holds of. -/
structure KeepBut (S : Nat → Prop) (w w' : World) : Prop where
  os : w'.os = w.os
  tape : w'.tape = w.tape
  output : w'.output = w.output
  size : w.heap.size ≤ w'.heap.size
  block : ∀ k, k < w.heap.size → ¬ S k → w'.heap[k]? = w.heap[k]?
theorem Keep.but {w w' : World} (h : Keep w w') (S : Nat → Prop) : KeepBut S w w' := ⟨Below.os h, Below.tape h, Below.output h, h.size, fun k hk _ => Below.block h k hk⟩
theorem KeepBut.refl (S : Nat → Prop) (w : World) : KeepBut S w w := (Keep.refl w).but S
theorem KeepBut.trans {S : Nat → Prop} {a b c : World} (h : KeepBut S a b) (k : KeepBut S b c) : KeepBut S a c :=
  ⟨k.os.trans h.os, k.tape.trans h.tape, k.output.trans h.output, Nat.le_trans h.size k.size, fun i hi hs => (k.block i (Nat.lt_of_lt_of_le hi h.size) hs).trans (h.block i hi hs)⟩
theorem KeepBut.mono {S T : Nat → Prop} {w w' : World} (h : KeepBut S w w') (hst : ∀ k, k < w.heap.size → S k → T k) : KeepBut T w w' := ⟨h.os, h.tape, h.output, h.size, fun k hk ht => h.block k hk fun hs => ht (hst k hk hs)⟩
theorem KeepBut.keep {w w' : World} {S : Nat → Prop} (h : KeepBut S w w') (hs : ∀ k, S k → w.heap.size ≤ k) : Keep w w' := ⟨h.os, h.tape, h.output, h.size, fun k hk => h.block k hk fun hS => absurd (hs k hS) (by omega)⟩
theorem KeepBut.setCell {S : Nat → Prop} {a w : World} (h : KeepBut S a w) {p : Addr} (hp : S p.block ∨ a.heap.size ≤ p.block) (v : Value) : KeepBut S a (w.setCell p v) :=
  ⟨h.os, h.tape, h.output, by simpa [World.setCell] using h.size, fun k hk hs => by
    rw [Below.heap_setCell _ _ _ _ (by rintro rfl; rcases hp with hp | hp; exact hs hp; omega)]
    exact h.block k hk hs⟩
theorem KeepBut.alloc {S : Nat → Prop} {a w : World} (h : KeepBut S a w) (o : Obj) : KeepBut S a (w.alloc o) :=
  ⟨h.os, h.tape, h.output, Nat.le_trans h.size (by simp), fun k hk hs => by rw [Below.heap_alloc _ _ _ (Nat.lt_of_lt_of_le hk h.size)]; exact h.block k hk hs⟩
theorem KeepBut.drew {S : Nat → Prop} {a w : World} (h : KeepBut S a w) : KeepBut S a w.drew := ⟨h.os, h.tape, h.output, h.size, h.block⟩
theorem Box.but {S : Nat → Prop} {w w' : World} {b : Nat} {vs : Array Value} (h : Box w b vs) (k : KeepBut S w w') (hb : ¬ S b) : Box w' b vs := by
  have hl := h.lt
  obtain ⟨t, h⟩ := h
  exact ⟨t, by rw [k.block _ hl hb]; exact h⟩

def bls (l : List Bool) : Array Value := (l.map Value.bool).toArray
/-- At p lies a memory of the reference's: its bytes in block gb, its tags in block gt. -/
structure RMem (w : World) (p gb gt cb ct : Nat) (bs : List Int) (ts : List Bool) : Prop where
  box : Box w p #[.slice (some ⟨gb, 0, none⟩) bs.length cb, .slice (some ⟨gt, 0, none⟩) ts.length ct]
  bytes : Box w gb (u8s bs)
  tags : Box w gt (bls ts)
  pb : p ≠ gb
  pt : p ≠ gt
  bt : gb ≠ gt
  isB : ∀ z ∈ bs, IsByte z
  len : bs.length = 16 * ts.length
  most : bs.length ≤ 65536
  capb : bs.length ≤ cb ∧ cb ≤ 9223372036854775807
  capt : ts.length ≤ ct ∧ ct ≤ 9223372036854775807
theorem RMem.keep {w w' : World} {p gb gt cb ct : Nat} {bs : List Int} {ts : List Bool} (h : RMem w p gb gt cb ct bs ts) (k : Keep w w') : RMem w' p gb gt cb ct bs ts :=
  { h with box := h.box.keep k, bytes := h.bytes.keep k, tags := h.tags.keep k }
def ownsM (gb gt : Nat) (k : Nat) : Prop := k = gb ∨ k = gt
theorem RMem.but {S : Nat → Prop} {w w' : World} {p gb gt cb ct : Nat} {bs : List Int} {ts : List Bool} (h : RMem w p gb gt cb ct bs ts) (k : KeepBut S w w') (hp : ¬ S p) (hb : ¬ S gb) (ht : ¬ S gt) : RMem w' p gb gt cb ct bs ts :=
  { h with box := h.box.but k hp, bytes := h.bytes.but k hb, tags := h.tags.but k ht }
/-- Are so many bytes there? -/
def reachB (a n : Int) (L : Nat) : Bool := decide (0 ≤ a) && decide (0 ≤ n) && decide (a + n ≤ L)
def wrongV (part : ByteArray) (at_ err : Int) : Value := .agg #[.string part, .int .i64 at_, .int .i64 err]
def okV : Value := wrongV ⟨#[]⟩ 0 0
def rangeV (a : Int) : Value := wrongV ⟨#[109, 101, 109]⟩ a 6
def alignV (a : Int) : Value := wrongV ⟨#[109, 101, 109]⟩ a 5
def reachV (a n : Int) (L : Nat) : Value := if reachB a n L = true then okV else rangeV a
set_option maxHeartbeats 1000000 in
theorem rreach_any (p gb gt cb ct : Nat) (bs : List Int) (ts : List Bool) (a n : Int) (ha : -9223372036854775808 ≤ a ∧ a ≤ 9223372036854775807) (hn : -9223372036854775808 ≤ n ∧ n ≤ 9223372036854775807) (w : World) (h : RMem w p gb gt cb ct bs ts) :
    Calls Tryd.prog 34 #[.pointer (some ⟨p, 0, none⟩), .int .i64 a, .int .i64 n] w fun e w' => e = .returned (reachV a n bs.length) ∧ Keep w w' := by
  have hL := h.most
  obtain ⟨L, hLe⟩ : ∃ L, L = bs.length := ⟨_, rfl⟩
  have B := h.box
  have hlt := B.lt
  rw [← hLe] at hL B ⊢
  clear h hLe
  have c0 := B.cells
  go_enter Tryd.func34, Tryd.ntmps34
  go_wp2_with fail
  all_goals (
    refine bodyPost_ret (v := reachV a n L) ?_ rfl ⟨rfl, (Keep.refl _).alloc _⟩
    first
      | (have hv : reachV a n L = okV := by unfold reachV; rw [if_pos (by simp [reachB]; omega)]
         rw [hv]; simp [results, Tryd.results34, go_sem, okV, wrongV]; done)
      | (have hv : reachV a n L = rangeV a := by unfold reachV; rw [if_neg (by simp [reachB]; omega)]
         rw [hv]; simp [results, Tryd.results34, go_sem, rangeV, wrongV]; done))
end Go.Proofs.YtnnelghngekbpaaDoor
