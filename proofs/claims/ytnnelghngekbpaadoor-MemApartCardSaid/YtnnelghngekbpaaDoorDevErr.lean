/- Errors as values, and the developers' memory as it lies. -/
import Derived.Test.YtnnelghngekbpaaDoorTells
import Derived.Test.YtnnelghngekbpaaDoorMemTagsRef
import Derived.Test.YtnnelghngekbpaaDoorCapRoot
namespace Go.Proofs.YtnnelghngekbpaaDoor
set_option linter.unusedVariables false
set_option linter.unusedSimpArgs false
open Go.RowKit
def faultP (q : Nat) : Value := .iface 77 (.pointer (some ⟨q, 0, none⟩))
/-- An error as a value, and what the reference says of it. -/
def ErrV (w : World) (v wv : Value) : Prop :=
  (wv = okV ∧ v = .nilIface) ∨ ∃ q part at_ n, ¬ n = 0 ∧ wv = wrongV part at_ n ∧ v = faultP q ∧ Box w q #[.string part, .int .i64 at_, .iface 74 (.int .i64 n)]
theorem ErrV.keep {w w' : World} {v wv : Value} (h : ErrV w v wv) (k : Keep w w') : ErrV w' v wv := by
  rcases h with h | ⟨q, part, at_, n, h1, h2, h3, h4⟩
  · exact .inl h
  · exact .inr ⟨q, part, at_, n, h1, h2, h3, h4.keep k⟩
theorem okV_wrong {part : ByteArray} {at_ n : Int} (h : okV = wrongV part at_ n) : n = 0 := by
  unfold okV wrongV at h
  simp only [Value.agg.injEq, Array.mk.injEq, List.cons.injEq, Value.int.injEq, true_and, and_true] at h
  exact h.2.2.symm
theorem ErrV.ok {w : World} {v : Value} (h : ErrV w v okV) : v = .nilIface := by
  rcases h with ⟨_, rfl⟩ | ⟨q, part, at_, n, h1, h2, h3, h4⟩
  · rfl
  · exact absurd (okV_wrong h2) h1
theorem ErrV.isOk {w : World} : ErrV w .nilIface okV := .inl ⟨rfl, rfl⟩
/-- An error that is told: a Fault. -/
theorem ErrV.fault {w : World} {v wv : Value} (h : ErrV w v wv) (hn : wv ≠ okV) : ∃ q, v = faultP q := by
  rcases h with ⟨rfl, _⟩ | ⟨q, part, at_, n, h1, h2, h3, h4⟩
  · exact absurd rfl hn
  · exact ⟨q, h3⟩
theorem Keep.butNew {w a b : World} {O : Nat → Prop} (h : Keep w a) (k : KeepBut O a b) (hO : ∀ x, O x → w.heap.size ≤ x) : Keep w b := ((h.but O).trans k).keep hO
theorem own_ints {w : World} {base n : Nat} {v : Value} {l : List Int} (h : w.ownsRow base 3 1 v n (l.map (Value.int .i64))) (hn : l.length = n) (hp : 0 < n) :
    ∃ g cap, v = .slice (some ⟨g, 0, none⟩) n cap ∧ n ≤ cap ∧ cap ≤ maxLen ∧ base ≤ g ∧ g < w.heap.size ∧ ∀ i, i < n → w.cell? ⟨g, i, none⟩ = some (.int .i64 (l.getD i 0)) := by
  obtain ⟨_, h | ⟨g', cap', cur, hv, hbg, hg, hn1, hcm, hsz, hx⟩⟩ := h
  · omega
  · refine ⟨g', cap', hv, hn1, hcm, hbg, (Array.getElem?_eq_some_iff.1 hg).1, fun i hi => ?_⟩
    have e := congrArg (fun x => x[i]?) hx
    simp only [List.getElem?_map, List.getElem?_eq_getElem (show i < l.length by omega), Option.map_some] at e
    rw [List.getElem?_take, if_pos (by omega)] at e
    simp only [World.cell?, hg]
    rw [List.getD_eq_getElem?_getD, List.getElem?_eq_getElem (show i < l.length by omega)]
    simpa using e
theorem ErrT.lt {w : World} (h : ErrT w) : 0 < w.heap.size := World.block_lt_of_cell? _ _ h
theorem tells_any (v wv : Value) (w : World) (h : ErrV w v wv) (hE : ErrT w) : Calls Tryd.prog 10 #[v, wv] w fun e w' => e = .returned (.bool true) ∧ Keep w w' := by
  rcases h with ⟨rfl, rfl⟩ | ⟨q, part, at_, n, h1, rfl, rfl, h4⟩
  · exact tells_nil w
  · exact tells_fault q part at_ n h1 w h4 hE hE.lt
def ptrV (m : Nat) : Value := .pointer (some ⟨m, 0, none⟩)
/-- The blocks of a memory. -/
def ownsD (m gb gt : Nat) (k : Nat) : Prop := k = m ∨ k = gb ∨ k = gt
/-- At p lies a memory: its bytes at the head of block gb, its tags at the head of block gt. -/
structure DM (w : World) (p gb gt cb ct : Nat) (bs : List Int) (ts : List Bool) : Prop where
  box : Box w p #[.slice (some ⟨gb, 0, none⟩) bs.length cb, .slice (some ⟨gt, 0, none⟩) ts.length ct]
  bytes : ∃ vs, Box w gb vs ∧ ∀ i, i < bs.length → vs[i]? = some (.int .u8 (bs.getD i 0))
  tags : ∃ vs, Box w gt vs ∧ ∀ i, i < ts.length → vs[i]? = some (.bool (ts.getD i false))
  pb : p ≠ gb
  pt : p ≠ gt
  bt : gb ≠ gt
  isB : ∀ z ∈ bs, IsByte z
  len : bs.length = 16 * ts.length
  most : bs.length ≤ 65536
  capb : bs.length ≤ cb ∧ cb ≤ 9223372036854775807
  capt : ts.length ≤ ct ∧ ct ≤ 9223372036854775807
namespace DM
variable {w w' : World} {p gb gt cb ct : Nat} {bs : List Int} {ts : List Bool}
theorem ofR (h : RMem w p gb gt cb ct bs ts) : DM w p gb gt cb ct bs ts :=
  { h with
    bytes := ⟨_, h.bytes, fun i hi => by simp [u8s, List.getD_eq_getElem?_getD, List.getElem?_eq_getElem hi]⟩
    tags := ⟨_, h.tags, fun i hi => by simp [bls, List.getD_eq_getElem?_getD, List.getElem?_eq_getElem hi]⟩ }
theorem keep (h : DM w p gb gt cb ct bs ts) (k : Keep w w') : DM w' p gb gt cb ct bs ts :=
  { h with
    box := h.box.keep k
    bytes := h.bytes.imp fun _ h => ⟨h.1.keep k, h.2⟩
    tags := h.tags.imp fun _ h => ⟨h.1.keep k, h.2⟩ }
theorem but {S : Nat → Prop} (h : DM w p gb gt cb ct bs ts) (k : KeepBut S w w') (hp : ¬ S p) (hb : ¬ S gb) (ht : ¬ S gt) : DM w' p gb gt cb ct bs ts :=
  { h with
    box := h.box.but k hp
    bytes := h.bytes.imp fun _ h => ⟨h.1.but k hb, h.2⟩
    tags := h.tags.imp fun _ h => ⟨h.1.but k ht, h.2⟩ }
theorem ltb (h : DM w p gb gt cb ct bs ts) : gb < w.heap.size := h.bytes.elim fun _ h => h.1.lt
theorem ltt (h : DM w p gb gt cb ct bs ts) : gt < w.heap.size := h.tags.elim fun _ h => h.1.lt
theorem cell (h : DM w p gb gt cb ct bs ts) {i : Nat} (hi : i < bs.length) : w.cell? ⟨gb, i, none⟩ = some (.int .u8 (bs.getD i 0)) := by
  obtain ⟨vs, hB, hv⟩ := h.bytes
  rw [hB.cells]
  exact hv i hi
theorem tag (h : DM w p gb gt cb ct bs ts) {i : Nat} (hi : i < ts.length) : w.cell? ⟨gt, i, none⟩ = some (.bool (ts.getD i false)) := by
  obtain ⟨vs, hB, hv⟩ := h.tags
  rw [hB.cells]
  exact hv i hi
theorem thawb (h : DM w p gb gt cb ct bs ts) : ∀ i, w.frozen? ⟨gb, i, none⟩ = false := h.bytes.elim fun _ h => h.1.thawed
theorem thawt (h : DM w p gb gt cb ct bs ts) : ∀ i, w.frozen? ⟨gt, i, none⟩ = false := h.tags.elim fun _ h => h.1.thawed
theorem setb (h : DM w p gb gt cb ct bs ts) (i : Nat) (z : Int) (hz : IsByte z) (hi : i < bs.length) : DM (w.setCell ⟨gb, i, none⟩ (.int .u8 z)) p gb gt cb ct (bs.set i z) ts :=
  { h with
    box := by rw [List.length_set]; exact h.box.other h.pb _
    bytes := by
      obtain ⟨vs, hB, hv⟩ := h.bytes
      refine ⟨_, hB.set i _, fun j hj => ?_⟩
      rw [List.length_set] at hj
      rw [Array.getElem?_setIfInBounds]
      have hvi := hv i hi
      have hsz : i < vs.size := (Array.getElem?_eq_some_iff.1 hvi).1
      by_cases e : i = j
      · subst e
        simp [hsz, List.getD_eq_getElem?_getD, hi]
      · rw [if_neg e, hv j hj]
        simp [List.getD_eq_getElem?_getD, e]
    tags := h.tags.imp fun _ q => ⟨q.1.other (Ne.symm h.bt) _, q.2⟩
    isB := fun y hy => by
      rcases List.mem_or_eq_of_mem_set hy with h' | rfl
      · exact h.isB y h'
      · exact hz
    len := by rw [List.length_set]; exact h.len
    most := by rw [List.length_set]; exact h.most
    capb := by rw [List.length_set]; exact h.capb }
theorem sett (h : DM w p gb gt cb ct bs ts) (j : Nat) (t : Bool) (hi : j < ts.length) : DM (w.setCell ⟨gt, j, none⟩ (.bool t)) p gb gt cb ct bs (ts.set j t) :=
  { h with
    box := by rw [List.length_set]; exact h.box.other h.pt _
    bytes := h.bytes.imp fun _ q => ⟨q.1.other h.bt _, q.2⟩
    tags := by
      obtain ⟨vs, hB, hv⟩ := h.tags
      refine ⟨_, hB.set j _, fun i hj => ?_⟩
      rw [List.length_set] at hj
      rw [Array.getElem?_setIfInBounds]
      have hvi := hv j hi
      have hsz : j < vs.size := (Array.getElem?_eq_some_iff.1 hvi).1
      by_cases e : j = i
      · subst e
        simp [hsz, List.getD_eq_getElem?_getD, hi]
      · rw [if_neg e, hv i hj]
        simp [List.getD_eq_getElem?_getD, e]
    len := by rw [List.length_set]; exact h.len
    capt := by rw [List.length_set]; exact h.capt }
end DM
/-- At m lies the developers' memory: its bytes, its tags, in the blocks that O holds of. -/
def DMem (w : World) (m : Nat) (O : Nat → Prop) (bs : List Int) (ts : List Bool) : Prop :=
  ∃ gb gt cb ct, DM w m gb gt cb ct bs ts ∧ O = ownsD m gb gt
namespace DMem
variable {w w' : World} {m : Nat} {O : Nat → Prop} {bs : List Int} {ts : List Bool}
theorem keep (h : DMem w m O bs ts) (k : Keep w w') : DMem w' m O bs ts := by
  obtain ⟨gb, gt, cb, ct, hr, rfl⟩ := h
  exact ⟨gb, gt, cb, ct, hr.keep k, rfl⟩
theorem but {T : Nat → Prop} (h : DMem w m O bs ts) (k : KeepBut T w w') (hT : ∀ b, O b → ¬ T b) : DMem w' m O bs ts := by
  obtain ⟨gb, gt, cb, ct, hr, rfl⟩ := h
  exact ⟨gb, gt, cb, ct, hr.but k (hT _ (.inl rfl)) (hT _ (.inr (.inl rfl))) (hT _ (.inr (.inr rfl))), rfl⟩
theorem lt (h : DMem w m O bs ts) : ∀ b, O b → b < w.heap.size := by
  obtain ⟨gb, gt, cb, ct, hr, rfl⟩ := h
  rintro b (rfl | rfl | rfl)
  · exact hr.box.lt
  · exact hr.ltb
  · exact hr.ltt
theorem len (h : DMem w m O bs ts) : bs.length = 16 * ts.length := by
  obtain ⟨gb, gt, cb, ct, hr, rfl⟩ := h
  exact hr.len
theorem most (h : DMem w m O bs ts) : bs.length ≤ 65536 := by
  obtain ⟨gb, gt, cb, ct, hr, rfl⟩ := h
  exact hr.most
theorem isB (h : DMem w m O bs ts) : ∀ z ∈ bs, IsByte z := by
  obtain ⟨gb, gt, cb, ct, hr, rfl⟩ := h
  exact hr.isB
end DMem
end Go.Proofs.YtnnelghngekbpaaDoor
