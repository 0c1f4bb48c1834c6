/- ImgPLoop, ImgRun: A row that grows by what a reader of bytes reads, each of them behind the other. -/
import Derived.Test.YtbmjnfnekmeegaaGreatDoorGRdrC
import Derived.Test.YtbmjnfnekmeegaaGreatDoorImgAt
/- A row that grows by what a reader of bytes reads, each of them behind the other. -/
namespace Go.Proofs.YtbmjnfnekmeegaaGreatDoor
set_option linter.unusedVariables false
set_option linter.unusedSimpArgs false
open Go Go.RowKit
/-- What stays while a row is read: the reader's block, the block that the row's slice is stored in, what is read; the world ahead, the row's kind. -/
structure LFix where
  r : Nat
  x : Nat
  vb : Value
  l : List Nat
  w : World
  e : TypeId
  m : Nat
structure LpAt (F : LFix) (C : Array Value) (v : Value) (n : Nat) (xs : List Value) (S : RSt) (W : World) : Prop where
  but : KeepBut (fun z => z = F.r ∨ z = F.x) F.w W
  rd : RdSt W F.r F.vb F.l S
  box : Box W F.x C
  row : W.ownsRow F.w.heap.size F.e F.m v n xs
  rx : F.r ≠ F.x
  rlt : F.r < F.w.heap.size
  xlt : F.x < F.w.heap.size
  c3 : C.size ≠ 3
theorem LpAt.keep' {F : LFix} {C : Array Value} {v : Value} {n : Nat} {xs : List Value} {S : RSt} {W W' : World} (h : LpAt F C v n xs S W) (k : Keep W W') : LpAt F C v n xs S W' :=
  { h with but := h.but.trans (k.but _), rd := h.rd.keep k, box := h.box.keep k, row := owns_keep h.row k }
theorem LpAt.low {F : LFix} {C : Array Value} {v : Value} {n : Nat} {xs : List Value} {S : RSt} {W : World} (h : LpAt F C v n xs S W) : ∀ g, v.ownBlock = some g → F.w.heap.size ≤ g ∧ g < W.heap.size := World.ownsRow.lt h.row
theorem LpAt.read {F : LFix} {C : Array Value} {v : Value} {n : Nat} {xs : List Value} {S S' : RSt} {W W' : World} (h : LpAt F C v n xs S W) (k : KeepBut (fun z => z = F.r) W W') (st : RdSt W' F.r F.vb F.l S') : LpAt F C v n xs S' W' :=
  { h with
    but := h.but.trans (k.mono (fun _ _ e => .inl e))
    rd := st
    box := h.box.but k (fun e => h.rx e.symm)
    row := owns_but h.row k (fun g hg => by have := (h.low g hg).1; have := h.rlt; omega) }
theorem LpAt.push {F : LFix} {C : Array Value} {v v' : Value} {n j : Nat} {xs ys : List Value} {S : RSt} {W W' : World} (h : LpAt F C v n xs S W) (o : W'.ownsRow F.w.heap.size F.e F.m v' (n + j) (xs ++ ys)) (g : W.grownBy W' v.ownBlock) (st : RdSt W' F.r F.vb F.l S) : LpAt F C v' (n + j) (xs ++ ys) S W' :=
  { h with
    but := by
      have k := grown_but g (fun z => v.ownBlock = some z) (fun _ hg => hg)
      have a : KeepBut (fun z => (z = F.r ∨ z = F.x) ∨ F.w.heap.size ≤ z) F.w W := h.but.mono (fun _ _ e => .inl e)
      have b : KeepBut (fun z => (z = F.r ∨ z = F.x) ∨ F.w.heap.size ≤ z) W W' := k.mono (fun z _ e => .inr (h.low z e).1)
      exact (a.trans b).mono (fun z hz e => e.resolve_right (by omega))
    rd := st
    box := grown_box g h.box (fun e => by have := (h.low _ e.symm).1; have := h.xlt; omega)
    row := o }
theorem LpAt.store {F : LFix} {C C' : Array Value} {v : Value} {n : Nat} {xs : List Value} {S : RSt} {W : World} (h : LpAt F C v n xs S W) (i : Nat) (u : Value) (he : C.setIfInBounds i u = C') : LpAt F C' v n xs S (W.setCell ⟨F.x, i, none⟩ u) := by
  have k : KeepBut (fun z => z = F.x) W (W.setCell ⟨F.x, i, none⟩ u) := KeepBut.setAt (S := fun z => z = F.x) (.inl rfl) (KeepBut.refl _ _) u
  exact { h with
    but := h.but.trans (k.mono (fun _ _ e => .inr e))
    rd := h.rd.set h.box h.c3 i u
    box := by rw [← he]; exact h.box.set i u
    row := owns_but h.row k (fun g hg => by have := (h.low g hg).1; have := h.xlt; omega)
    c3 := by rw [← he, Array.size_setIfInBounds]; exact h.c3 }
/-- A row of numbers lies in none of the reader's blocks. -/
theorem own_noI {w : World} {base : Nat} {e : TypeId} {size : Nat} {v : Value} {n : Nat} {xs : List Value} (h : w.ownsRow base e size v n xs) (h0 : v = .slice none 0 0 ∨ ∃ k x, xs[0]? = some (.int k x)) (b : Nat) (us : Array Value) (hB : Box w b us) (hu : ∀ k x, us[0]? ≠ some (.int k x)) : v.ownBlock ≠ some b := by
  rcases h0 with rfl | ⟨k, x, h0⟩
  · intro e; cases e
  · intro e
    obtain ⟨_, ⟨rfl, _⟩ | ⟨g, cap, cur, rfl, _, hg, _, _, hc, ht⟩⟩ := h
    · cases e
    · simp only [Value.ownBlock, Option.some.injEq] at e
      subst e
      obtain ⟨t, hB⟩ := hB
      rw [hg] at hB
      cases hB
      apply hu k x
      rw [← ht, List.getElem?_take] at h0
      split at h0
      · rw [← Array.getElem?_toList]; exact h0
      · cases h0
theorem RdSt.grownI {w w' : World} {r : Nat} {vb : Value} {l : List Nat} {S : RSt} {row : Option Nat} (h : RdSt w r vb l S) (hv : ∀ k x, vb ≠ .int k x) (g : w.grownBy w' row) (hn : ∀ (b : Nat) (us : Array Value), Box w b us → (∀ k x, us[0]? ≠ some (.int k x)) → row ≠ some b) : RdSt w' r vb l S := by
  have n1 : ∀ (u1 u2 : Value) k x, (#[vb, u1, u2] : Array Value)[0]? ≠ some (.int k x) := fun u1 u2 k x e => by
    simp at e; exact hv k x e
  have n2 : ∀ (s : ByteArray) (u1 u2 : Value) k x, (#[.string s, u1, u2] : Array Value)[0]? ≠ some (.int k x) := fun s u1 u2 k x e => by simp at e
  cases S with
  | ok p => exact ⟨h.1, grown_box g h.2 (hn _ _ h.2 (n1 _ _)).symm⟩
  | error e =>
    obtain ⟨q, p, h1, h2, h3, h4, h5⟩ := h
    exact ⟨q, p, h1, h2, h3, grown_box g h4 (hn _ _ h4 (n1 _ _)).symm, grown_box g h5 (hn _ _ h5 (n2 _ _ _)).symm⟩
end Go.Proofs.YtbmjnfnekmeegaaGreatDoor

/- An image out of its bytes, as the program goes; rows of parts while they are read. -/
namespace Go.Proofs.YtbmjnfnekmeegaaGreatDoor
set_option linter.unusedVariables false
set_option linter.unusedSimpArgs false
open Go Go.RowKit
def readI (l : List Nat) : Rd ImgV := thenR (imgR l 0) fun i p => thenR (endR l p) fun _ q => .ok (i, q)
theorem decI_read (l : List Nat) : decI l = match readI l with
    | .error (a, e) => .error (byteT, a, e)
    | .ok (i, _) => if (imgW i).2.2 = 0 then .ok i else .error (imgW i) := by
  unfold decI readI thenR endR
  cases imgR l 0 with
  | error e => rfl
  | ok x =>
    obtain ⟨o, p⟩ := x
    dsimp only
    by_cases h : p < l.length
    · rw [if_pos h, if_pos h]
    · rw [if_neg h, if_neg h]
def readIC (l : List Nat) : Nat → Rd ImgV := fun p =>
  thenR (headR l himg p) fun _ p => thenR (numR l p) fun size p => thenR (mostR l 64 15 p) fun n p => thenR (manyR (partR l) n p) fun parts p => thenR (mostR l 64 15 p) fun n p => thenR (manyR (spanR l) n p) fun shares p =>
  thenR (mostR l 512 15 p) fun n p => thenR (manyR (initR l) n p) fun inits p => thenR (mostR l 2147483647 14 p) fun start p => thenR (numR l p) fun addr p => thenR (mostR l 65536 15 p) fun n p => thenR (takeR l n p) fun bytes p => thenR (endR l p) fun _ p => .ok (⟨size, parts, shares, inits, start, addr, bytes⟩, p)
theorem readI_C (l : List Nat) : readI l = RSt.run (.ok 0) (readIC l) := by
  show readI l = readIC l 0
  unfold readI imgR readIC
  simp only [thenR_assoc]
  rfl
theorem readI_got {l : List Nat} {sz n1 n2 n3 st ad n4 : Nat} {ps : List PartV} {ss : List SpanV} {xs : List InitV} {bs : List Nat} {S1 S2 S3 S4 S5 S6 S7 S8 S9 S10 S11 S12 S13 : RSt} (G1 : Got (RSt.run (.ok 0) (headR l himg)) () S1) (G2 : Got (S1.run (numR l)) sz S2) (G3 : Got (S2.run (mostR l 64 15)) n1 S3) (G4 : Got (S3.run (manyR (partR l) n1)) ps S4)
    (G5 : Got (S4.run (mostR l 64 15)) n2 S5) (G6 : Got (S5.run (manyR (spanR l) n2)) ss S6) (G7 : Got (S6.run (mostR l 512 15)) n3 S7) (G8 : Got (S7.run (manyR (initR l) n3)) xs S8) (G9 : Got (S8.run (mostR l 2147483647 14)) st S9) (G10 : Got (S9.run (numR l)) ad S10) (G11 : Got (S10.run (mostR l 65536 15)) n4 S11) (G12 : Got (S11.run (takeR l n4)) bs S12) (G13 : Got (S12.run (endR l)) () S13) :
    Got (readI l) ⟨sz, ps, ss, xs, st, ad, bs⟩ S13 := by
  rw [readI_C]
  unfold readIC
  rw [Got.next _ G1, Got.next _ G2, Got.next _ G3, Got.next _ G4, Got.next _ G5, Got.next _ G6, Got.next _ G7, Got.next _ G8, Got.next _ G9, Got.next _ G10, Got.next _ G11, Got.next _ G12, Got.next _ G13]
  exact Got.last _
theorem partRows_snoc (ps : List PartV) (ves : List Value) (p : PartV) (v : Value) (h : ves.length = ps.length) : partRows (ps ++ [p]) (ves ++ [v]) = partRows ps ves ++ partRow (p, v) := by
  unfold partRows
  rw [List.zip_append h.symm, List.flatMap_append]
  simp
/-- The entries of parts that are read, each a row of its own, new. -/
structure PEnts (B : Nat) (W : World) (vp : Value) (ps : List PartV) (ves : List Value) : Prop where
  len : ves.length = ps.length
  row : ∀ (k : Nat) (p : PartV) (v : Value), ps[k]? = some p → ves[k]? = some v → W.ownsRow B 31 1 v p.entries.length (p.entries.map u32V) ∧ ∀ g, v.ownBlock = some g → vp.ownBlock ≠ some g
theorem PEnts.nil (B : Nat) (W : World) (vp : Value) : PEnts B W vp [] [] := ⟨rfl, fun k p v h => by simp at h⟩
theorem PEnts.but {B : Nat} {W W' : World} {vp : Value} {ps : List PartV} {ves : List Value} {S : Nat → Prop} (h : PEnts B W vp ps ves) (k : KeepBut S W W') (hS : ∀ g, B ≤ g → ¬ S g) : PEnts B W' vp ps ves :=
  ⟨h.len, fun j p v hp hv => ⟨owns_but (h.row j p v hp hv).1 k (fun g hg => hS g (World.ownsRow.lt (h.row j p v hp hv).1 g hg).1), (h.row j p v hp hv).2⟩⟩
theorem PEnts.keep {B : Nat} {W W' : World} {vp : Value} {ps : List PartV} {ves : List Value} (h : PEnts B W vp ps ves) (k : Keep W W') : PEnts B W' vp ps ves := h.but (k.but (fun _ => False)) (fun _ _ h => h)
theorem PEnts.grow {B : Nat} {W W' : World} {vp vp' : Value} {ps : List PartV} {ves : List Value} (h : PEnts B W vp ps ves) (g : W.grownBy W' vp.ownBlock) (b : vp'.ownBlock = vp.ownBlock ∨ ∃ k, vp'.ownBlock = some k ∧ W.heap.size ≤ k) : PEnts B W' vp' ps ves :=
  ⟨h.len, fun j p v hp hv => by
    obtain ⟨o, ne⟩ := h.row j p v hp hv
    refine ⟨owns_grown' o g (fun k hk => ne k hk), fun k hk e => ?_⟩
    rcases b with b | ⟨y, b, hy⟩
    · exact ne k hk (b ▸ e)
    · have := (World.ownsRow.lt o k hk).2
      rw [b] at e
      simp only [Option.some.injEq] at e
      omega⟩
theorem PEnts.snoc {B : Nat} {W : World} {vp : Value} {ps : List PartV} {ves : List Value} (h : PEnts B W vp ps ves) (p : PartV) (v : Value) (o : W.ownsRow B 31 1 v p.entries.length (p.entries.map u32V)) (ne : ∀ g, v.ownBlock = some g → vp.ownBlock ≠ some g) : PEnts B W vp (ps ++ [p]) (ves ++ [v]) := by
  refine ⟨by simp [h.len], fun j q u hq hu => ?_⟩
  by_cases hj : j < ps.length
  · rw [List.getElem?_append_left hj] at hq
    rw [List.getElem?_append_left (by rw [h.len]; exact hj)] at hu
    exact h.row j q u hq hu
  · rw [List.getElem?_append_right (by omega)] at hq
    rw [List.getElem?_append_right (by rw [h.len]; omega), h.len] at hu
    obtain ⟨hl, _⟩ := List.getElem?_eq_some_iff.1 hq
    simp only [List.length_cons, List.length_nil] at hl
    have e : j - ps.length = 0 := by omega
    rw [e] at hq hu
    simp only [List.getElem?_cons_zero, Option.some.injEq] at hq hu
    subst hq hu
    exact ⟨o, ne⟩
end Go.Proofs.YtbmjnfnekmeegaaGreatDoor
