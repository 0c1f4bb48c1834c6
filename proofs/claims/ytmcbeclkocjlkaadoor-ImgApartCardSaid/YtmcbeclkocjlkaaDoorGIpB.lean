/- ImgPLoop, ImgPPrt, ImgRun, ImgPRead: A row that grows by what a reader of bytes reads, each of them behind the other. -/
import Derived.Test.YtmcbeclkocjlkaaDoorGRdrC
import Derived.Test.YtmcbeclkocjlkaaDoorGIpA
import Derived.Test.YtmcbeclkocjlkaaDoorAppSrc
import Derived.Test.YtmcbeclkocjlkaaDoorImgAt
/- A row that grows by what a reader of bytes reads, each of them behind the other. -/
namespace Go.Proofs.YtmcbeclkocjlkaaDoor
set_option linter.unusedVariables false
set_option linter.unusedSimpArgs false
open Go Go.RowKit
/-- What stays while a row is read: the reader's block, the block that the row's slice is stored in, what is read; the world ahead, the row's kind. -/
structure LFix where
  r : Nat
  x : Nat
  vb : Value
  l : List Nat
  w : World
  e : TypeId
  m : Nat
structure LpAt (F : LFix) (C : Array Value) (v : Value) (n : Nat) (xs : List Value) (S : RSt) (W : World) : Prop where
  but : KeepBut (fun z => z = F.r ∨ z = F.x) F.w W
  rd : RdSt W F.r F.vb F.l S
  box : Box W F.x C
  row : W.ownsRow F.w.heap.size F.e F.m v n xs
  rx : F.r ≠ F.x
  rlt : F.r < F.w.heap.size
  xlt : F.x < F.w.heap.size
  c3 : C.size ≠ 3
theorem LpAt.keep' {F : LFix} {C : Array Value} {v : Value} {n : Nat} {xs : List Value} {S : RSt} {W W' : World} (h : LpAt F C v n xs S W) (k : Keep W W') : LpAt F C v n xs S W' :=
  { h with but := h.but.trans (k.but _), rd := h.rd.keep k, box := h.box.keep k, row := owns_keep h.row k }
theorem LpAt.low {F : LFix} {C : Array Value} {v : Value} {n : Nat} {xs : List Value} {S : RSt} {W : World} (h : LpAt F C v n xs S W) : ∀ g, v.ownBlock = some g → F.w.heap.size ≤ g ∧ g < W.heap.size := World.ownsRow.lt h.row
theorem LpAt.read {F : LFix} {C : Array Value} {v : Value} {n : Nat} {xs : List Value} {S S' : RSt} {W W' : World} (h : LpAt F C v n xs S W) (k : KeepBut (fun z => z = F.r) W W') (st : RdSt W' F.r F.vb F.l S') : LpAt F C v n xs S' W' :=
  { h with
    but := h.but.trans (k.mono (fun _ _ e => .inl e))
    rd := st
    box := h.box.but k (fun e => h.rx e.symm)
    row := owns_but h.row k (fun g hg => by have := (h.low g hg).1; have := h.rlt; omega) }
theorem LpAt.push {F : LFix} {C : Array Value} {v v' : Value} {n j : Nat} {xs ys : List Value} {S : RSt} {W W' : World} (h : LpAt F C v n xs S W) (o : W'.ownsRow F.w.heap.size F.e F.m v' (n + j) (xs ++ ys)) (g : W.grownBy W' v.ownBlock) (st : RdSt W' F.r F.vb F.l S) : LpAt F C v' (n + j) (xs ++ ys) S W' :=
  { h with
    but := by
      have k := grown_but g (fun z => v.ownBlock = some z) (fun _ hg => hg)
      have a : KeepBut (fun z => (z = F.r ∨ z = F.x) ∨ F.w.heap.size ≤ z) F.w W := h.but.mono (fun _ _ e => .inl e)
      have b : KeepBut (fun z => (z = F.r ∨ z = F.x) ∨ F.w.heap.size ≤ z) W W' := k.mono (fun z _ e => .inr (h.low z e).1)
      exact (a.trans b).mono (fun z hz e => e.resolve_right (by omega))
    rd := st
    box := grown_box g h.box (fun e => by have := (h.low _ e.symm).1; have := h.xlt; omega)
    row := o }
theorem LpAt.store {F : LFix} {C C' : Array Value} {v : Value} {n : Nat} {xs : List Value} {S : RSt} {W : World} (h : LpAt F C v n xs S W) (i : Nat) (u : Value) (he : C.setIfInBounds i u = C') : LpAt F C' v n xs S (W.setCell ⟨F.x, i, none⟩ u) := by
  have k : KeepBut (fun z => z = F.x) W (W.setCell ⟨F.x, i, none⟩ u) := KeepBut.setAt (S := fun z => z = F.x) (.inl rfl) (KeepBut.refl _ _) u
  exact { h with
    but := h.but.trans (k.mono (fun _ _ e => .inr e))
    rd := h.rd.set h.box h.c3 i u
    box := by rw [← he]; exact h.box.set i u
    row := owns_but h.row k (fun g hg => by have := (h.low g hg).1; have := h.xlt; omega)
    c3 := by rw [← he, Array.size_setIfInBounds]; exact h.c3 }
/-- A row of numbers lies in none of the reader's blocks. -/
theorem own_noI {w : World} {base : Nat} {e : TypeId} {size : Nat} {v : Value} {n : Nat} {xs : List Value} (h : w.ownsRow base e size v n xs) (h0 : v = .slice none 0 0 ∨ ∃ k x, xs[0]? = some (.int k x)) (b : Nat) (us : Array Value) (hB : Box w b us) (hu : ∀ k x, us[0]? ≠ some (.int k x)) : v.ownBlock ≠ some b := by
  rcases h0 with rfl | ⟨k, x, h0⟩
  · intro e; cases e
  · intro e
    obtain ⟨_, ⟨rfl, _⟩ | ⟨g, cap, cur, rfl, _, hg, _, _, hc, ht⟩⟩ := h
    · cases e
    · simp only [Value.ownBlock, Option.some.injEq] at e
      subst e
      obtain ⟨t, hB⟩ := hB
      rw [hg] at hB
      cases hB
      apply hu k x
      rw [← ht, List.getElem?_take] at h0
      split at h0
      · rw [← Array.getElem?_toList]; exact h0
      · cases h0
theorem RdSt.grownI {w w' : World} {r : Nat} {vb : Value} {l : List Nat} {S : RSt} {row : Option Nat} (h : RdSt w r vb l S) (hv : ∀ k x, vb ≠ .int k x) (g : w.grownBy w' row) (hn : ∀ (b : Nat) (us : Array Value), Box w b us → (∀ k x, us[0]? ≠ some (.int k x)) → row ≠ some b) : RdSt w' r vb l S := by
  have n1 : ∀ (u1 u2 : Value) k x, (#[vb, u1, u2] : Array Value)[0]? ≠ some (.int k x) := fun u1 u2 k x e => by
    simp at e; exact hv k x e
  have n2 : ∀ (s : ByteArray) (u1 u2 : Value) k x, (#[.string s, u1, u2] : Array Value)[0]? ≠ some (.int k x) := fun s u1 u2 k x e => by simp at e
  cases S with
  | ok p => exact ⟨h.1, grown_box g h.2 (hn _ _ h.2 (n1 _ _)).symm⟩
  | error e =>
    obtain ⟨q, p, h1, h2, h3, h4, h5⟩ := h
    exact ⟨q, p, h1, h2, h3, grown_box g h4 (hn _ _ h4 (n1 _ _)).symm, grown_box g h5 (hn _ _ h5 (n2 _ _ _)).symm⟩
end Go.Proofs.YtmcbeclkocjlkaaDoor

/- The program's part, as it is read. -/
namespace Go.Proofs.YtmcbeclkocjlkaaDoor
set_option linter.unusedVariables false
set_option linter.unusedSimpArgs false
open Go Go.RowKit
theorem infoU32 : (Tryd.prog.info? 22).map (fun i => (i.zero, i.size, i.bytes)) = some (some (.int .u32 0), 1, 4) := by kernel_rfl
theorem got_ent {l : List Nat} {S S' : RSt} {a : Nat} (h : Got (S.run (numRN l 4)) a S') : Got (S.run (entR l)) (a : Int) S' := by
  rw [numRN_four] at h
  have e : S.run (entR l) = _ := Got.next (fun (n : Nat) p => (.ok ((n : Int), p) : Rd Int)) h
  rw [e]
  exact Got.last _
/-- A part as a value: flat. -/
def partVal (p : PartV) (ve : Value) : Value := .agg #[.string p.name, .int .u32 p.code.at_, .int .u32 p.code.size, .int .u32 p.data.at_, .int .u32 p.data.size, .int .u32 p.stack.at_, .int .u32 p.stack.size, ve]
structure PartNum (p : PartV) : Prop where
  code : SpanOk p.code
  data : SpanOk p.data
  stack : SpanOk p.stack
  few : p.entries.length ≤ 64
  ents : ∀ e ∈ p.entries, N32 e
  name : p.name.size ≤ 255
/-- What part answers. -/
def PartRV (B : Nat) (W : World) (p : PartV) (v : Value) : Prop := ∃ ve, v = partVal p ve ∧ W.ownsRow B 22 1 ve p.entries.length (p.entries.map u32V) ∧ PartNum p
set_option maxHeartbeats 4000000 in
set_option maxRecDepth 100000 in
theorem ipartR_any (w0 : World) (r : Nat) (vb : Value) (l : List Nat) (hx : RCtx w0 r vb l) (S : RSt) (w : World) (h : RdSt w r vb l S) (k0 : Keep w0 w) :
    Calls Tryd.prog 48 #[.pointer (some ⟨r, 0, none⟩)] w (RdPost r vb l (S.run (partR l)) (PartRV w.heap.size) w) := by
  obtain ⟨i1, hi1, hy0, hy1, hy2⟩ := oinfo_parts infoU32
  have VB : Hid (∀ k x, vb ≠ .int k x) := Lib.hid (by obtain ⟨p, cap, e, _⟩ := hx.lies; intro k x e2; rw [e] at e2; cases e2)
  have HR0 := Lib.hid (show w0.heap.size ≤ w.heap.size from k0.size)
  have HRL := Lib.hid h.lt
  obtain ⟨W0, hW0⟩ : ∃ W0, W0 = w.alloc (.cells #[.string ⟨#[]⟩, .int .u32 0, .int .u32 0, .int .u32 0, .int .u32 0, .int .u32 0, .int .u32 0, .slice none 0 0] 39) := ⟨_, rfl⟩
  have KA : Hid (Keep w W0) := Lib.hid (by rw [hW0]; exact (Keep.refl _).alloc _)
  have R0 : Hid (Box W0 w.heap.size #[.string ⟨#[]⟩, .int .u32 0, .int .u32 0, .int .u32 0, .int .u32 0, .int .u32 0, .int .u32 0, .slice none 0 0]) := Lib.hid (by rw [hW0]; exact Box.new _ _ _)
  have NR := Lib.hid (show w.heap.size ≠ r from fun e => by have := h.lt; omega)
  have HX := Lib.hid hx
  have K0 := Lib.hid (k0.trans KA.out)
  have KB0 : Hid (KeepBut (fun z => z = r) W0 W0) := Lib.hid (KeepBut.refl _ _)
  have ST0 := Lib.hid (h.keep KA.out)
  clear hx h k0
  go_enter Tryd.func48, Tryd.ntmps48
  go_wp2_with fail
  rw [← hW0]
  clear hW0
  have C1 := Lib.hid (itextR_any w0 r vb l HX.out S W0 ST0.out (K0.out.butNew KB0.out (fun x hx => by rw [hx]; exact HX.out.new)))
  refine C1.out.mono ?_
  rintro e w1 ⟨_, nm, S1, rfl, ⟨rfl, hnm⟩, hst, hgot, hk⟩
  have G1 := Lib.hid hgot
  have KB1 := Lib.hid (KB0.out.trans hk)
  have ST1 := Lib.hid hst
  clear hst hgot hk C1
  have HNM := Lib.hid hnm
  clear hnm
  go_wp2_with fail
  have C2 := Lib.hid (ispanR_any w0 r vb l HX.out S1 w1 ST1.out (K0.out.butNew KB1.out (fun x hx => by rw [hx]; exact HX.out.new)))
  refine C2.out.mono ?_
  rintro e w2 ⟨_, s1, S2, rfl, ⟨rfl, hs1⟩, hst, hgot, hk⟩
  have G2 := Lib.hid hgot
  have KB2 := Lib.hid (KB1.out.trans hk)
  have ST2 := Lib.hid hst
  clear hst hgot hk C2
  have HS1 := Lib.hid hs1
  clear hs1
  unfold spanVal
  go_wp2_with fail
  have C3 := Lib.hid (ispanR_any w0 r vb l HX.out S2 w2 ST2.out (K0.out.butNew KB2.out (fun x hx => by rw [hx]; exact HX.out.new)))
  refine C3.out.mono ?_
  rintro e w3 ⟨_, s2, S3, rfl, ⟨rfl, hs2⟩, hst, hgot, hk⟩
  have G3 := Lib.hid hgot
  have KB3 := Lib.hid (KB2.out.trans hk)
  have ST3 := Lib.hid hst
  clear hst hgot hk C3
  have HS2 := Lib.hid hs2
  clear hs2
  unfold spanVal
  go_wp2_with fail
  have C4 := Lib.hid (ispanR_any w0 r vb l HX.out S3 w3 ST3.out (K0.out.butNew KB3.out (fun x hx => by rw [hx]; exact HX.out.new)))
  refine C4.out.mono ?_
  rintro e w4 ⟨_, s3, S4, rfl, ⟨rfl, hs3⟩, hst, hgot, hk⟩
  have G4 := Lib.hid hgot
  have KB4 := Lib.hid (KB3.out.trans hk)
  have ST4 := Lib.hid hst
  clear hst hgot hk C4
  have HS3 := Lib.hid hs3
  clear hs3
  unfold spanVal
  obtain ⟨W6, hW6⟩ : ∃ W6, W6 = w4.alloc (.cells #[.string nm, .int .u32 s1.at_, .int .u32 s1.size, .int .u32 s2.at_, .int .u32 s2.size, .int .u32 s3.at_, .int .u32 s3.size, .slice none 0 0] 39) := ⟨_, rfl⟩
  obtain ⟨x, hx⟩ : ∃ x, x = w4.heap.size := ⟨_, rfl⟩
  have KA4 : Hid (Keep w4 W6) := Lib.hid (by rw [hW6]; exact (Keep.refl _).alloc _)
  have KW4 : Hid (KeepBut (fun z => z = r) w W6) := Lib.hid (((KA.out.but _).trans KB4.out).trans (KA4.out.but _))
  have RES := Lib.hid ((R0.out.but KB4.out NR.out).keep KA4.out)
  have XL := Lib.hid (show x < W6.heap.size by rw [hx, hW6]; simp)
  have XN := Lib.hid (show w.heap.size < x by rw [hx]; have := R0.out.lt; have := KB4.out.size; omega)
  have KW : Hid (Keep w0 W6) := Lib.hid ((K0.out.butNew KB4.out (fun x hx => by rw [hx]; exact HX.out.new)).trans KA4.out)
  have NN : Hid (w0.heap.size ≤ r ∧ w0.heap.size ≤ x) := Lib.hid ⟨HX.out.new, by have := HR0.out; have := XN.out; omega⟩
  have P6 : Hid (LpAt (⟨r, x, vb, l, W6, 22, 1⟩ : LFix) #[.string nm, .int .u32 s1.at_, .int .u32 s1.size, .int .u32 s2.at_, .int .u32 s2.size, .int .u32 s3.at_, .int .u32 s3.size, (.slice none 0 0)] (.slice none 0 0) 0 [] S4 W6) := Lib.hid ⟨KeepBut.refl _ _, ST4.out.keep KA4.out, by show Box W6 x _; rw [hW6, hx]; exact Box.new _ _ _, World.ownsRow_nil _ _ _ _, fun e => by have e2 : r = x := e; have := XN.out; have := HRL.out; omega, by show r < W6.heap.size; have := XL.out; have := XN.out; have := HRL.out; omega, XL.out, by simp⟩
  go_wp2_with fail
  rw [← hW6]
  rw [← hx]
  clear hW6 hx
  have C6 := Lib.hid (icount_any w0 r vb l HX.out S4 64 (by decide) W6 P6.out.rd KW.out)
  go_wp2_with fail
  refine C6.out.mono ?_
  rintro e w7 ⟨v, n, S7, rfl, ⟨rfl, hn⟩, hst, hgot, hk⟩
  have G7 := Lib.hid hgot
  have P7 := Lib.hid (P6.out.read hk hst)
  have HN := Lib.hid hn
  clear hst hgot hk C6 P6
  go_wp2_with fail
  go_loopw [15] (fun i wr => ∃ (es : List Int) (SL : RSt) (ve : Value), es.length ≤ n ∧ i = .int .i64 (es.length : Int) ∧ LpAt (⟨r, x, vb, l, W6, 22, 1⟩ : LFix) #[.string nm, .int .u32 s1.at_, .int .u32 s1.size, .int .u32 s2.at_, .int .u32 s2.size, .int .u32 s3.at_, .int .u32 s3.size, ve] ve es.length (es.map u32V) SL wr ∧ (ve = .slice none 0 0 ∨ ∃ k y, (es.map u32V)[0]? = some (.int k y)) ∧ ManyAt (S7.run (manyR (entR l) n)) (entR l) n es SL ∧ ∀ e ∈ es, N32 e) (fun i _ => n - (intOf i).toNat)
  case atStart => exact ⟨[], S7, _, Nat.zero_le _, rfl, P7.out, .inl rfl, ManyAt.start, fun s hs => nomatch hs⟩
  case round =>
    obtain ⟨es, SL, ve, hos, rfl, hP, hV0, hM, hO⟩ := hrel
    have P := Lib.hid hP
    have HV0 := Lib.hid hV0
    have MA := Lib.hid hM
    have OS := Lib.hid hO
    clear hP hM hO P7 hV0
    by_cases hlt : es.length < n
    · have hd : decide ((es.length : Int) < (n : Int)) = true := decide_eq_true (by omega)
      have hd2 : (es.length : Int) < (n : Int) := by omega
      have NB := Lib.hid (show es.length + 1 ≤ 64 by omega)
      have HLT := Lib.hid hlt
      have wq : IntKind.i64.wrap ((es.length : Int) + 1) = (es.length : Int) + 1 := by rw [IntKind.wrap_i64]; omega
      clear hlt
      go_wp2_with fail
      refine Rel.regionP (KeepBut (fun z => z = r ∨ z = x ∨ W6.heap.size ≤ z)) (butWay _) [] [0, 2] 6 (by kernel_rfl) (by kernel_rfl) (Keep.refl _) ?_
      repeat (apply Rel.pre_step (by rfl) (by rfl) (by rfl)
              · intro W' hW'
                go_simp
                exact ⟨rfl, Keep.refl _⟩
              go_simp)
      apply Rel.pre_end
      refine Rel.every_two 1 3 (by kernel_rfl) (by rfl) (by rfl) (by rfl) (by rfl) ?_ ?_
      · intro W1 h1
        have PP := Lib.hid (P.out.keep' h1)
        skip
        skip
        have BX : Box W1 x #[.string nm, .int .u32 s1.at_, .int .u32 s1.size, .int .u32 s2.at_, .int .u32 s2.size, .int .u32 s3.at_, .int .u32 s3.size, ve] := PP.out.box
        have cx := BX.cells
        go_simp
        apply Rel.gives_value
        refine ⟨KeepBut.refl _ _, ?_⟩
        clear h1 cx BX P
        have P := PP
        clear PP
        go_simp
        apply Rel.every_one 3 (by kernel_rfl) (by rfl) (by rfl)
        intro W2 h2
        have P2 := Lib.hid (P.out.keep' h2)
        skip
        go_simp
        apply Rel.gives_enter
        go_at_call 46
        refine (inumber_any w0 r vb l HX.out SL 4 (.inr rfl) W2 P2.out.rd (KW.out.butNew P2.out.but (fun y hy => by have h2 : y = r ∨ y = x := hy; have := NN.out; omega))).mono ?_
        rintro e w8 ⟨v, s, S', rfl, ⟨rfl, hs, _⟩, hst, hgot, hk⟩
        refine ⟨_, rfl, hk.mono (fun _ _ h => .inl h), ?_⟩
        have PP := Lib.hid (P2.out.read hk hst)
        have GG := Lib.hid (show Got (SL.run (entR l)) (s : Int) S' from got_ent hgot)
        have HS := Lib.hid hs
        skip
        clear hk hst hgot h2 P2 P hs
        have P := PP
        clear PP
        skip
        go_simp
        apply Rel.every_one 4 (by kernel_rfl) (by rfl) (by rfl)
        intro W4 h4
        go_simp
        apply Rel.gives_value
        refine ⟨((Keep.refl _).alloc _).but _, ?_⟩
        have PP := Lib.hid (P.out.keep' (h4.alloc (.cells #[.int .u32 (s : Int)] 22)))
        skip
        have BB := Lib.hid (Box.new W4 #[.int .u32 (s : Int)] 22)
        obtain ⟨gb, hgb⟩ : ∃ gb, gb = W4.heap.size := ⟨_, rfl⟩
        rw [← hgb] at BB ⊢
        obtain ⟨WB, hWB⟩ : ∃ WB, WB = W4.alloc (.cells #[.int .u32 (s : Int)] 22) := ⟨_, rfl⟩
        rw [← hWB] at PP BB  ⊢
        clear hWB hgb h4 P
        have P := PP
        clear PP
        go_simp
        apply Rel.every_one 5 (by kernel_rfl) (by rfl) (by rfl)
        intro WX h6
        have P6 := Lib.hid (P.out.keep' h6)
        skip
        have B6 := BB.out.keep h6
        refine gives_append_src WX (.tmp 18) (.tmp 21) 37 37 rfl W6.heap.size 22 i1 _ 1 4 Tryd.underlying37 hi1 hy0 hy1 hy2 rfl _ _ _ rfl P6.out.row (.slice (some ⟨gb, 0, none⟩) 1 1) 1 ([.int .u32 (s : Int)]) rfl (Src.ofSlice WX Tryd.underlying37 _ 1 1 _ rfl (fun j u hj => by rw [show (⟨gb, 0, none⟩ : Addr).add j = ⟨gb, j, none⟩ by unfold Addr.add; split <;> simp_all]; rw [B6.cells]; simpa [List.getElem?_cons_zero] using hj) (fun u hu => by simp [List.getElem?_cons_zero] at hu; subst hu; rfl)) (by have := NB.out; unfold maxLen; omega) (by have := NB.out; omega) P6.out.but.size ?_
        intro v7 V7 o7 g7 b7
        refine ⟨grown_but g7 _ (fun g hg => .inr (.inr (P6.out.low g hg).1)), ?_⟩
        have PP := Lib.hid (P6.out.push o7 g7 (RdSt.grownI P6.out.rd VB.out g7 (own_noI P6.out.row HV0.out)))
        have HV1 : Hid (∃ k y, (es.map u32V ++ [Value.int .u32 (s : Int)])[0]? = some (.int k y)) := Lib.hid (by cases es with
          | nil => exact ⟨_, _, rfl⟩
          | cons a m => exact ⟨_, _, rfl⟩)
        have NV := Lib.hid (show es.length + 1 ≤ maxLen by have := NB.out; unfold maxLen; omega)
        obtain ⟨pv, cv, hv7, _, _, _⟩ := owns_cells o7 NV.out
        obtain ⟨nv, hnv⟩ : ∃ nv, nv = es.length + 1 := ⟨_, rfl⟩
        rw [← hnv] at hv7
        clear hnv
        subst hv7
        clear o7 g7 b7 h6 B6 P6 P BB
        have P := PP
        clear PP
        go_simp
        apply Rel.every_one 6 (by kernel_rfl) (by rfl) (by rfl)
        intro W8 h8
        go_simp
        apply Rel.gives_value
        refine ⟨KeepBut.refl _ _, ?_⟩
        have PP := Lib.hid (P.out.keep' h8)
        skip
        clear h8 P
        have P := PP
        clear PP
        go_simp
        apply Rel.every_one 7 (by kernel_rfl) (by rfl) (by rfl)
        intro W9 h9
        have P9 := Lib.hid (P.out.keep' h9)
        skip
        have BX : Box W9 x #[.string nm, .int .u32 s1.at_, .int .u32 s1.size, .int .u32 s2.at_, .int .u32 s2.size, .int .u32 s3.at_, .int .u32 s3.size, ve] := P9.out.box
        have cx := BX.cells
        have fx := BX.thawed
        go_simp
        apply Rel.gives_skip
        refine ⟨KeepBut.setAt (S := fun z => z = r ∨ z = x ∨ W6.heap.size ≤ z) (.inl (.inr (.inl rfl))) (KeepBut.refl _ _) _, ?_⟩
        skip
        have PP := Lib.hid (P9.out.store 7 (.slice pv nv cv) (C' := #[.string nm, .int .u32 s1.at_, .int .u32 s1.size, .int .u32 s2.at_, .int .u32 s2.size, .int .u32 s3.at_, .int .u32 s3.size, .slice pv nv cv]) rfl)
        clear h9 cx fx BX P9 P
        have P := PP
        clear PP
        go_simp
        refine Rel.every_end (by kernel_rfl) ?_
        intro WA hA
        have PP := Lib.hid (P.out.keep' hA)
        skip
        clear hA P
        have P := PP
        clear PP
        go_wp2_with fail
        go_roundw
        case rel => exact ⟨es ++ [(s : Int)], S', .slice pv nv cv, by have := HLT.out; simp; omega, by simp, by rw [List.map_append, List.length_append]; exact P.out, by rw [List.map_append]; exact .inr HV1.out, MA.out.more HLT.out GG.out, fun s2 hs2 => by
          rcases List.mem_append.1 hs2 with h | h
          · exact OS.out s2 h
          · rw [List.mem_singleton] at h; subst h; exact ⟨Int.natCast_nonneg _, by have := HS.out; omega⟩⟩
        case measure => have := HLT.out; simp [intOf]; omega
      · intro W2 h2
        have P2 := Lib.hid (P.out.keep' h2)
        skip
        go_simp
        apply Rel.gives_enter
        go_at_call 46
        refine (inumber_any w0 r vb l HX.out SL 4 (.inr rfl) W2 P2.out.rd (KW.out.butNew P2.out.but (fun y hy => by have h2 : y = r ∨ y = x := hy; have := NN.out; omega))).mono ?_
        rintro e w8 ⟨v, s, S', rfl, ⟨rfl, hs, _⟩, hst, hgot, hk⟩
        refine ⟨_, rfl, hk.mono (fun _ _ h => .inl h), ?_⟩
        have PP := Lib.hid (P2.out.read hk hst)
        have GG := Lib.hid (show Got (SL.run (entR l)) (s : Int) S' from got_ent hgot)
        have HS := Lib.hid hs
        skip
        clear hk hst hgot h2 P2 P hs
        have P := PP
        clear PP
        skip
        go_simp
        refine Rel.every_two 1 4 (by kernel_rfl) (by rfl) (by rfl) (by rfl) (by rfl) ?_ ?_
        · intro W1 h1
          have PP := Lib.hid (P.out.keep' h1)
          skip
          skip
          have BX : Box W1 x #[.string nm, .int .u32 s1.at_, .int .u32 s1.size, .int .u32 s2.at_, .int .u32 s2.size, .int .u32 s3.at_, .int .u32 s3.size, ve] := PP.out.box
          have cx := BX.cells
          go_simp
          apply Rel.gives_value
          refine ⟨KeepBut.refl _ _, ?_⟩
          clear h1 cx BX P
          have P := PP
          clear PP
          go_simp
          apply Rel.every_one 4 (by kernel_rfl) (by rfl) (by rfl)
          intro W4 h4
          go_simp
          apply Rel.gives_value
          refine ⟨((Keep.refl _).alloc _).but _, ?_⟩
          have PP := Lib.hid (P.out.keep' (h4.alloc (.cells #[.int .u32 (s : Int)] 22)))
          skip
          have BB := Lib.hid (Box.new W4 #[.int .u32 (s : Int)] 22)
          obtain ⟨gb, hgb⟩ : ∃ gb, gb = W4.heap.size := ⟨_, rfl⟩
          rw [← hgb] at BB ⊢
          obtain ⟨WB, hWB⟩ : ∃ WB, WB = W4.alloc (.cells #[.int .u32 (s : Int)] 22) := ⟨_, rfl⟩
          rw [← hWB] at PP BB  ⊢
          clear hWB hgb h4 P
          have P := PP
          clear PP
          go_simp
          apply Rel.every_one 5 (by kernel_rfl) (by rfl) (by rfl)
          intro WX h6
          have P6 := Lib.hid (P.out.keep' h6)
          skip
          have B6 := BB.out.keep h6
          refine gives_append_src WX (.tmp 18) (.tmp 21) 37 37 rfl W6.heap.size 22 i1 _ 1 4 Tryd.underlying37 hi1 hy0 hy1 hy2 rfl _ _ _ rfl P6.out.row (.slice (some ⟨gb, 0, none⟩) 1 1) 1 ([.int .u32 (s : Int)]) rfl (Src.ofSlice WX Tryd.underlying37 _ 1 1 _ rfl (fun j u hj => by rw [show (⟨gb, 0, none⟩ : Addr).add j = ⟨gb, j, none⟩ by unfold Addr.add; split <;> simp_all]; rw [B6.cells]; simpa [List.getElem?_cons_zero] using hj) (fun u hu => by simp [List.getElem?_cons_zero] at hu; subst hu; rfl)) (by have := NB.out; unfold maxLen; omega) (by have := NB.out; omega) P6.out.but.size ?_
          intro v7 V7 o7 g7 b7
          refine ⟨grown_but g7 _ (fun g hg => .inr (.inr (P6.out.low g hg).1)), ?_⟩
          have PP := Lib.hid (P6.out.push o7 g7 (RdSt.grownI P6.out.rd VB.out g7 (own_noI P6.out.row HV0.out)))
          have HV1 : Hid (∃ k y, (es.map u32V ++ [Value.int .u32 (s : Int)])[0]? = some (.int k y)) := Lib.hid (by cases es with
            | nil => exact ⟨_, _, rfl⟩
            | cons a m => exact ⟨_, _, rfl⟩)
          have NV := Lib.hid (show es.length + 1 ≤ maxLen by have := NB.out; unfold maxLen; omega)
          obtain ⟨pv, cv, hv7, _, _, _⟩ := owns_cells o7 NV.out
          obtain ⟨nv, hnv⟩ : ∃ nv, nv = es.length + 1 := ⟨_, rfl⟩
          rw [← hnv] at hv7
          clear hnv
          subst hv7
          clear o7 g7 b7 h6 B6 P6 P BB
          have P := PP
          clear PP
          go_simp
          apply Rel.every_one 6 (by kernel_rfl) (by rfl) (by rfl)
          intro W8 h8
          go_simp
          apply Rel.gives_value
          refine ⟨KeepBut.refl _ _, ?_⟩
          have PP := Lib.hid (P.out.keep' h8)
          skip
          clear h8 P
          have P := PP
          clear PP
          go_simp
          apply Rel.every_one 7 (by kernel_rfl) (by rfl) (by rfl)
          intro W9 h9
          have P9 := Lib.hid (P.out.keep' h9)
          skip
          have BX : Box W9 x #[.string nm, .int .u32 s1.at_, .int .u32 s1.size, .int .u32 s2.at_, .int .u32 s2.size, .int .u32 s3.at_, .int .u32 s3.size, ve] := P9.out.box
          have cx := BX.cells
          have fx := BX.thawed
          go_simp
          apply Rel.gives_skip
          refine ⟨KeepBut.setAt (S := fun z => z = r ∨ z = x ∨ W6.heap.size ≤ z) (.inl (.inr (.inl rfl))) (KeepBut.refl _ _) _, ?_⟩
          skip
          have PP := Lib.hid (P9.out.store 7 (.slice pv nv cv) (C' := #[.string nm, .int .u32 s1.at_, .int .u32 s1.size, .int .u32 s2.at_, .int .u32 s2.size, .int .u32 s3.at_, .int .u32 s3.size, .slice pv nv cv]) rfl)
          clear h9 cx fx BX P9 P
          have P := PP
          clear PP
          go_simp
          refine Rel.every_end (by kernel_rfl) ?_
          intro WA hA
          have PP := Lib.hid (P.out.keep' hA)
          skip
          clear hA P
          have P := PP
          clear PP
          go_wp2_with fail
          go_roundw
          case rel => exact ⟨es ++ [(s : Int)], S', .slice pv nv cv, by have := HLT.out; simp; omega, by simp, by rw [List.map_append, List.length_append]; exact P.out, by rw [List.map_append]; exact .inr HV1.out, MA.out.more HLT.out GG.out, fun s2 hs2 => by
            rcases List.mem_append.1 hs2 with h | h
            · exact OS.out s2 h
            · rw [List.mem_singleton] at h; subst h; exact ⟨Int.natCast_nonneg _, by have := HS.out; omega⟩⟩
          case measure => have := HLT.out; simp [intOf]; omega
        · intro W4 h4
          go_simp
          apply Rel.gives_value
          refine ⟨((Keep.refl _).alloc _).but _, ?_⟩
          have PP := Lib.hid (P.out.keep' (h4.alloc (.cells #[.int .u32 (s : Int)] 22)))
          skip
          have BB := Lib.hid (Box.new W4 #[.int .u32 (s : Int)] 22)
          obtain ⟨gb, hgb⟩ : ∃ gb, gb = W4.heap.size := ⟨_, rfl⟩
          rw [← hgb] at BB ⊢
          obtain ⟨WB, hWB⟩ : ∃ WB, WB = W4.alloc (.cells #[.int .u32 (s : Int)] 22) := ⟨_, rfl⟩
          rw [← hWB] at PP BB  ⊢
          clear hWB hgb h4 P
          have P := PP
          clear PP
          go_simp
          apply Rel.every_one 1 (by kernel_rfl) (by rfl) (by rfl)
          intro W1 h1
          have PP := Lib.hid (P.out.keep' h1)
          skip
          have BB := Lib.hid (BB.out.keep h1)
          have BX : Box W1 x #[.string nm, .int .u32 s1.at_, .int .u32 s1.size, .int .u32 s2.at_, .int .u32 s2.size, .int .u32 s3.at_, .int .u32 s3.size, ve] := PP.out.box
          have cx := BX.cells
          go_simp
          apply Rel.gives_value
          refine ⟨KeepBut.refl _ _, ?_⟩
          clear h1 cx BX P
          have P := PP
          clear PP
          go_simp
          apply Rel.every_one 5 (by kernel_rfl) (by rfl) (by rfl)
          intro WX h6
          have P6 := Lib.hid (P.out.keep' h6)
          skip
          have B6 := BB.out.keep h6
          refine gives_append_src WX (.tmp 18) (.tmp 21) 37 37 rfl W6.heap.size 22 i1 _ 1 4 Tryd.underlying37 hi1 hy0 hy1 hy2 rfl _ _ _ rfl P6.out.row (.slice (some ⟨gb, 0, none⟩) 1 1) 1 ([.int .u32 (s : Int)]) rfl (Src.ofSlice WX Tryd.underlying37 _ 1 1 _ rfl (fun j u hj => by rw [show (⟨gb, 0, none⟩ : Addr).add j = ⟨gb, j, none⟩ by unfold Addr.add; split <;> simp_all]; rw [B6.cells]; simpa [List.getElem?_cons_zero] using hj) (fun u hu => by simp [List.getElem?_cons_zero] at hu; subst hu; rfl)) (by have := NB.out; unfold maxLen; omega) (by have := NB.out; omega) P6.out.but.size ?_
          intro v7 V7 o7 g7 b7
          refine ⟨grown_but g7 _ (fun g hg => .inr (.inr (P6.out.low g hg).1)), ?_⟩
          have PP := Lib.hid (P6.out.push o7 g7 (RdSt.grownI P6.out.rd VB.out g7 (own_noI P6.out.row HV0.out)))
          have HV1 : Hid (∃ k y, (es.map u32V ++ [Value.int .u32 (s : Int)])[0]? = some (.int k y)) := Lib.hid (by cases es with
            | nil => exact ⟨_, _, rfl⟩
            | cons a m => exact ⟨_, _, rfl⟩)
          have NV := Lib.hid (show es.length + 1 ≤ maxLen by have := NB.out; unfold maxLen; omega)
          obtain ⟨pv, cv, hv7, _, _, _⟩ := owns_cells o7 NV.out
          obtain ⟨nv, hnv⟩ : ∃ nv, nv = es.length + 1 := ⟨_, rfl⟩
          rw [← hnv] at hv7
          clear hnv
          subst hv7
          clear o7 g7 b7 h6 B6 P6 P BB
          have P := PP
          clear PP
          go_simp
          apply Rel.every_one 6 (by kernel_rfl) (by rfl) (by rfl)
          intro W8 h8
          go_simp
          apply Rel.gives_value
          refine ⟨KeepBut.refl _ _, ?_⟩
          have PP := Lib.hid (P.out.keep' h8)
          skip
          clear h8 P
          have P := PP
          clear PP
          go_simp
          apply Rel.every_one 7 (by kernel_rfl) (by rfl) (by rfl)
          intro W9 h9
          have P9 := Lib.hid (P.out.keep' h9)
          skip
          have BX : Box W9 x #[.string nm, .int .u32 s1.at_, .int .u32 s1.size, .int .u32 s2.at_, .int .u32 s2.size, .int .u32 s3.at_, .int .u32 s3.size, ve] := P9.out.box
          have cx := BX.cells
          have fx := BX.thawed
          go_simp
          apply Rel.gives_skip
          refine ⟨KeepBut.setAt (S := fun z => z = r ∨ z = x ∨ W6.heap.size ≤ z) (.inl (.inr (.inl rfl))) (KeepBut.refl _ _) _, ?_⟩
          skip
          have PP := Lib.hid (P9.out.store 7 (.slice pv nv cv) (C' := #[.string nm, .int .u32 s1.at_, .int .u32 s1.size, .int .u32 s2.at_, .int .u32 s2.size, .int .u32 s3.at_, .int .u32 s3.size, .slice pv nv cv]) rfl)
          clear h9 cx fx BX P9 P
          have P := PP
          clear PP
          go_simp
          refine Rel.every_end (by kernel_rfl) ?_
          intro WA hA
          have PP := Lib.hid (P.out.keep' hA)
          skip
          clear hA P
          have P := PP
          clear PP
          go_wp2_with fail
          go_roundw
          case rel => exact ⟨es ++ [(s : Int)], S', .slice pv nv cv, by have := HLT.out; simp; omega, by simp, by rw [List.map_append, List.length_append]; exact P.out, by rw [List.map_append]; exact .inr HV1.out, MA.out.more HLT.out GG.out, fun s2 hs2 => by
            rcases List.mem_append.1 hs2 with h | h
            · exact OS.out s2 h
            · rw [List.mem_singleton] at h; subst h; exact ⟨Int.natCast_nonneg _, by have := HS.out; omega⟩⟩
          case measure => have := HLT.out; simp [intOf]; omega
    · have HEQ := Lib.hid (show es.length = n by omega)
      have hd : decide ((es.length : Int) < (n : Int)) = false := decide_eq_false (by omega)
      have G8 := Lib.hid (MA.out.done HEQ.out)
      have HL := Lib.hid (show es.length ≤ 64 by omega)
      obtain ⟨pe, ce, hve, _, _, _⟩ := owns_cells P.out.row (by have := HL.out; unfold maxLen; omega)
      subst hve
      have BX : Box wr x #[.string nm, .int .u32 s1.at_, .int .u32 s1.size, .int .u32 s2.at_, .int .u32 s2.size, .int .u32 s3.at_, .int .u32 s3.size, .slice pe es.length ce] := P.out.box
      have cx := BX.cells
      have RE := Lib.hid (RES.out.but P.out.but (by have := XN.out; have := NR.out; intro e; have e2 : w.heap.size = r ∨ w.heap.size = x := e; omega))
      have r0 := RE.out.cells
      have rf := RE.out.thawed
      have GA : Hid (Got (S.run (partR l)) (⟨nm, s1, s2, s3, es⟩ : PartV) SL) := Lib.hid (by
        have e1 := Got.next (fun s p => thenR (spanR l p) fun a p => thenR (spanR l p) fun b p => thenR (spanR l p) fun c p => thenR (mostR l 64 15 p) fun m p => thenR (manyR (entR l) m p) fun e p => (.ok ((⟨s, a, b, c, e⟩ : PartV), p) : Rd PartV)) G1.out
        have e2 := Got.next (fun a p => thenR (spanR l p) fun b p => thenR (spanR l p) fun c p => thenR (mostR l 64 15 p) fun m p => thenR (manyR (entR l) m p) fun e p => (.ok ((⟨nm, a, b, c, e⟩ : PartV), p) : Rd PartV)) G2.out
        have e3 := Got.next (fun b p => thenR (spanR l p) fun c p => thenR (mostR l 64 15 p) fun m p => thenR (manyR (entR l) m p) fun e p => (.ok ((⟨nm, s1, b, c, e⟩ : PartV), p) : Rd PartV)) G3.out
        have e4 := Got.next (fun c p => thenR (mostR l 64 15 p) fun m p => thenR (manyR (entR l) m p) fun e p => (.ok ((⟨nm, s1, s2, c, e⟩ : PartV), p) : Rd PartV)) G4.out
        have e5 := Got.next (fun m p => thenR (manyR (entR l) m p) fun e p => (.ok ((⟨nm, s1, s2, s3, e⟩ : PartV), p) : Rd PartV)) G7.out
        have e6 := Got.next (fun e p => (.ok ((⟨nm, s1, s2, s3, e⟩ : PartV), p) : Rd PartV)) G8.out
        have ee : S.run (partR l) = _ := e1.trans (e2.trans (e3.trans (e4.trans (e5.trans e6))))
        rw [ee]
        exact Got.last _)
      have KF : Hid (KeepBut (fun z => z = r) w wr) := Lib.hid (by
        have a : KeepBut (fun z => z = r ∨ w.heap.size ≤ z) w W6 := KW4.out.mono (fun _ _ e => .inl e)
        have b : KeepBut (fun z => z = r ∨ w.heap.size ≤ z) W6 wr := P.out.but.mono (fun z _ e => by
          rcases e with e | e
          · exact .inl e
          · have e2 : z = x := e
            have := XN.out
            exact .inr (by omega))
        exact (a.trans b).mono (fun z hz e => e.resolve_right (by omega)))
      clear HEQ hd MA hos
      go_wp2_with fail
      refine bodyPost_ret (v := partVal ⟨nm, s1, s2, s3, es⟩ (.slice pe es.length ce)) ?_ rfl ⟨_, ⟨nm, s1, s2, s3, es⟩, SL, rfl, ⟨_, rfl, ?_, ⟨HS1.out, HS2.out, HS3.out, HL.out, OS.out, HNM.out⟩⟩, ?_, GA.out, ?_⟩
      · simp [results, Tryd.results48, go_sem, r0, partVal]; done
      · refine owns_base (owns_but (S := fun z => z = w.heap.size) P.out.row ?_ (fun g hg => by have h2 : W6.heap.size ≤ g := (P.out.low g hg).1; have := XL.out; have := XN.out; show ¬ g = w.heap.size; omega)) (by show w.heap.size ≤ W6.heap.size; have := XL.out; have := XN.out; omega)
        repeat (with_reducible refine KeepBut.setAt ?_ ?_ _; · exact .inl rfl)
        exact KeepBut.refl _ _
      · exact RdSt.sets8 P.out.rd RE.out (by decide) _ _ _ _ _ _ _ _
      · repeat (with_reducible refine KeepBut.setAt ?_ ?_ _; · exact .inr (Nat.le_refl _))
        exact KF.out
end Go.Proofs.YtmcbeclkocjlkaaDoor

/- An image out of its bytes, as the program goes; rows of parts while they are read. -/
namespace Go.Proofs.YtmcbeclkocjlkaaDoor
set_option linter.unusedVariables false
set_option linter.unusedSimpArgs false
open Go Go.RowKit
def readI (l : List Nat) : Rd ImgV := thenR (imgR l 0) fun i p => thenR (endR l p) fun _ q => .ok (i, q)
theorem decI_read (l : List Nat) : decI l = match readI l with
    | .error (a, e) => .error (byteT, a, e)
    | .ok (i, _) => if (imgW i).2.2 = 0 then .ok i else .error (imgW i) := by
  unfold decI readI thenR endR
  cases imgR l 0 with
  | error e => rfl
  | ok x =>
    obtain ⟨o, p⟩ := x
    dsimp only
    by_cases h : p < l.length
    · rw [if_pos h, if_pos h]
    · rw [if_neg h, if_neg h]
def readIC (l : List Nat) : Nat → Rd ImgV := fun p =>
  thenR (headR l himg p) fun _ p => thenR (numR l p) fun size p => thenR (mostR l 64 15 p) fun n p => thenR (manyR (partR l) n p) fun parts p => thenR (mostR l 64 15 p) fun n p => thenR (manyR (spanR l) n p) fun shares p =>
  thenR (mostR l 512 15 p) fun n p => thenR (manyR (initR l) n p) fun inits p => thenR (mostR l 2147483647 14 p) fun start p => thenR (numR l p) fun addr p => thenR (mostR l 65536 15 p) fun n p => thenR (takeR l n p) fun bytes p => thenR (endR l p) fun _ p => .ok (⟨size, parts, shares, inits, start, addr, bytes⟩, p)
theorem readI_C (l : List Nat) : readI l = RSt.run (.ok 0) (readIC l) := by
  show readI l = readIC l 0
  unfold readI imgR readIC
  simp only [thenR_assoc]
  rfl
theorem readI_got {l : List Nat} {sz n1 n2 n3 st ad n4 : Nat} {ps : List PartV} {ss : List SpanV} {xs : List InitV} {bs : List Nat} {S1 S2 S3 S4 S5 S6 S7 S8 S9 S10 S11 S12 S13 : RSt} (G1 : Got (RSt.run (.ok 0) (headR l himg)) () S1) (G2 : Got (S1.run (numR l)) sz S2) (G3 : Got (S2.run (mostR l 64 15)) n1 S3) (G4 : Got (S3.run (manyR (partR l) n1)) ps S4)
    (G5 : Got (S4.run (mostR l 64 15)) n2 S5) (G6 : Got (S5.run (manyR (spanR l) n2)) ss S6) (G7 : Got (S6.run (mostR l 512 15)) n3 S7) (G8 : Got (S7.run (manyR (initR l) n3)) xs S8) (G9 : Got (S8.run (mostR l 2147483647 14)) st S9) (G10 : Got (S9.run (numR l)) ad S10) (G11 : Got (S10.run (mostR l 65536 15)) n4 S11) (G12 : Got (S11.run (takeR l n4)) bs S12) (G13 : Got (S12.run (endR l)) () S13) :
    Got (readI l) ⟨sz, ps, ss, xs, st, ad, bs⟩ S13 := by
  rw [readI_C]
  unfold readIC
  rw [Got.next _ G1, Got.next _ G2, Got.next _ G3, Got.next _ G4, Got.next _ G5, Got.next _ G6, Got.next _ G7, Got.next _ G8, Got.next _ G9, Got.next _ G10, Got.next _ G11, Got.next _ G12, Got.next _ G13]
  exact Got.last _
theorem partRows_snoc (ps : List PartV) (ves : List Value) (p : PartV) (v : Value) (h : ves.length = ps.length) : partRows (ps ++ [p]) (ves ++ [v]) = partRows ps ves ++ partRow (p, v) := by
  unfold partRows
  rw [List.zip_append h.symm, List.flatMap_append]
  simp
/-- The entries of parts that are read, each a row of its own, new. -/
structure PEnts (B : Nat) (W : World) (vp : Value) (ps : List PartV) (ves : List Value) : Prop where
  len : ves.length = ps.length
  row : ∀ (k : Nat) (p : PartV) (v : Value), ps[k]? = some p → ves[k]? = some v → W.ownsRow B 22 1 v p.entries.length (p.entries.map u32V) ∧ ∀ g, v.ownBlock = some g → vp.ownBlock ≠ some g
theorem PEnts.nil (B : Nat) (W : World) (vp : Value) : PEnts B W vp [] [] := ⟨rfl, fun k p v h => by simp at h⟩
theorem PEnts.but {B : Nat} {W W' : World} {vp : Value} {ps : List PartV} {ves : List Value} {S : Nat → Prop} (h : PEnts B W vp ps ves) (k : KeepBut S W W') (hS : ∀ g, B ≤ g → ¬ S g) : PEnts B W' vp ps ves :=
  ⟨h.len, fun j p v hp hv => ⟨owns_but (h.row j p v hp hv).1 k (fun g hg => hS g (World.ownsRow.lt (h.row j p v hp hv).1 g hg).1), (h.row j p v hp hv).2⟩⟩
theorem PEnts.keep {B : Nat} {W W' : World} {vp : Value} {ps : List PartV} {ves : List Value} (h : PEnts B W vp ps ves) (k : Keep W W') : PEnts B W' vp ps ves := h.but (k.but (fun _ => False)) (fun _ _ h => h)
theorem PEnts.grow {B : Nat} {W W' : World} {vp vp' : Value} {ps : List PartV} {ves : List Value} (h : PEnts B W vp ps ves) (g : W.grownBy W' vp.ownBlock) (b : vp'.ownBlock = vp.ownBlock ∨ ∃ k, vp'.ownBlock = some k ∧ W.heap.size ≤ k) : PEnts B W' vp' ps ves :=
  ⟨h.len, fun j p v hp hv => by
    obtain ⟨o, ne⟩ := h.row j p v hp hv
    refine ⟨owns_grown' o g (fun k hk => ne k hk), fun k hk e => ?_⟩
    rcases b with b | ⟨y, b, hy⟩
    · exact ne k hk (b ▸ e)
    · have := (World.ownsRow.lt o k hk).2
      rw [b] at e
      simp only [Option.some.injEq] at e
      omega⟩
theorem PEnts.snoc {B : Nat} {W : World} {vp : Value} {ps : List PartV} {ves : List Value} (h : PEnts B W vp ps ves) (p : PartV) (v : Value) (o : W.ownsRow B 22 1 v p.entries.length (p.entries.map u32V)) (ne : ∀ g, v.ownBlock = some g → vp.ownBlock ≠ some g) : PEnts B W vp (ps ++ [p]) (ves ++ [v]) := by
  refine ⟨by simp [h.len], fun j q u hq hu => ?_⟩
  by_cases hj : j < ps.length
  · rw [List.getElem?_append_left hj] at hq
    rw [List.getElem?_append_left (by rw [h.len]; exact hj)] at hu
    exact h.row j q u hq hu
  · rw [List.getElem?_append_right (by omega)] at hq
    rw [List.getElem?_append_right (by rw [h.len]; omega), h.len] at hu
    obtain ⟨hl, _⟩ := List.getElem?_eq_some_iff.1 hq
    simp only [List.length_cons, List.length_nil] at hl
    have e : j - ps.length = 0 := by omega
    rw [e] at hq hu
    simp only [List.getElem?_cons_zero, Option.some.injEq] at hq hu
    subst hq hu
    exact ⟨o, ne⟩
end Go.Proofs.YtmcbeclkocjlkaaDoor

/- The program's read: an image out of its bytes. -/
namespace Go.Proofs.YtmcbeclkocjlkaaDoor
set_option linter.unusedVariables false
set_option linter.unusedSimpArgs false
open Go Go.RowKit
theorem infoIP : (Tryd.prog.info? 39).map (fun i => (i.zero, i.size, i.bytes)) = some (some (.agg #[.string ⟨#[]⟩, .int .u32 0, .int .u32 0, .int .u32 0, .int .u32 0, .int .u32 0, .int .u32 0, .slice none 0 0]), 8, 64) := by kernel_rfl
theorem infoIS : (Tryd.prog.info? 36).map (fun i => (i.zero, i.size, i.bytes)) = some (some (.agg #[.int .u32 0, .int .u32 0]), 2, 8) := by kernel_rfl
theorem infoII : (Tryd.prog.info? 43).map (fun i => (i.zero, i.size, i.bytes)) = some (some (.agg #[.int .i64 0, .int .u32 0, .int .i64 0, .bool false, .int .i64 0, .int .u32 0, .int .u16 0]), 7, 48) := by kernel_rfl
/-- What read answers. -/
def IReadR (l : List Nat) (w : World) (e : Ending) (w' : World) : Prop := ∃ (i : ImgV) (vp vs vi vb : Value) (ves : List Value) (u : Value), e = .returned (.tuple #[imgVal i vp vs vi vb, u]) ∧ Keep w w' ∧ (∀ W, KeepBut (fun z => z < w.heap.size) w' W → ImgAt W i vp vs vi vb ves) ∧ ImgNum i ∧ ImgMid i ∧ match readI l with
  | .ok (y, _) => i = y ∧ u = .nilIface
  | .error (a, c) => c ≠ 0 ∧ OErr w' u (byteT, a, c)
set_option maxHeartbeats 16000000 in
set_option maxRecDepth 100000 in
theorem iread_any (vb : Value) (l : List Nat) (w : World) (hl : SlAt w vb l.length (l.map byteV)) (hb : ∀ x ∈ l, x < 256) (few : l.length ≤ 100000) : Calls Tryd.prog 24 #[vb] w (IReadR l w) := by
  obtain ⟨i0, hi0, hz0, hz1, hz2⟩ := oinfo_parts infoU8
  obtain ⟨i1, hi1, hy10, hy11, hy12⟩ := oinfo_parts infoIP
  obtain ⟨i2, hi2, hy20, hy21, hy22⟩ := oinfo_parts infoIS
  obtain ⟨i3, hi3, hy30, hy31, hy32⟩ := oinfo_parts infoII
  obtain ⟨W1, hW1⟩ : ∃ W1, W1 = (w.alloc (.cells #[.int .u32 0, .slice none 0 0, .slice none 0 0, .slice none 0 0, .int .i64 0, .int .u32 0, .slice none 0 0] 28)).alloc (.cells #[vb, .int .i64 0, .nilIface] 90) := ⟨_, rfl⟩
  have K1 : Hid (Keep w W1) := Lib.hid (by rw [hW1]; exact ((Keep.refl _).alloc _).alloc _)
  have B1 : Hid (Box W1 w.heap.size #[.int .u32 0, .slice none 0 0, .slice none 0 0, .slice none 0 0, .int .i64 0, .int .u32 0, .slice none 0 0]) := Lib.hid (by rw [hW1]; exact (Box.new _ _ _).alloc _)
  have R1 : Hid (RdSt W1 (w.heap.size + 1) vb l (.ok 0)) := Lib.hid ⟨Nat.zero_le _, by rw [hW1]; exact Box.new1 _ _ _ _⟩
  obtain ⟨r, hr⟩ : ∃ r, r = w.heap.size + 1 := ⟨_, rfl⟩
  have HX : Hid (RCtx w r vb l) := Lib.hid ⟨hl, by omega, hb, few⟩
  have RW := Lib.hid (show w.heap.size < r by omega)
  obtain ⟨ip, ic, rfl, _, _, _⟩ := hl
  clear hb few
  go_enter Tryd.func24, Tryd.ntmps24
  go_wp2_with fail
  rw [← hW1]
  rw [← hr] at R1 ⊢
  clear hW1 hr
  refine (ibegin_any w r _ l HX.out (.ok 0) W1 R1.out K1.out).mono ?_
  rintro e w2 ⟨S1, rfl, hst, hgot, hk⟩
  have G1 := Lib.hid hgot
  have KB2 := Lib.hid hk
  have C3 := Lib.hid (inumber_any w r _ l HX.out S1 4 (.inr rfl) w2 hst (K1.out.butNew KB2.out (fun x hx => by have := RW.out; omega)))
  rw [numRN_four] at C3
  clear hst hgot hk
  go_wp2_with fail
  refine C3.out.mono ?_
  rintro e w3 ⟨v, sz, S2, rfl, ⟨rfl, hsz, _⟩, hst, hgot, hk⟩
  have G2 := Lib.hid hgot
  have HSZ := Lib.hid hsz
  have KB3 := Lib.hid (KB2.out.trans hk)
  have ST3 := Lib.hid hst
  clear hst hgot hk hsz C3
  obtain ⟨WA, hWA⟩ : ∃ WA, WA = w3.alloc (.cells #[.int .u32 (sz : Int), (.slice none 0 0), (.slice none 0 0), (.slice none 0 0), .int .i64 0, .int .u32 0, (.slice none 0 0)] 28) := ⟨_, rfl⟩
  obtain ⟨x, hx⟩ : ∃ x, x = w3.heap.size := ⟨_, rfl⟩
  have KA3 : Hid (Keep w3 WA) := Lib.hid (by rw [hWA]; exact (Keep.refl _).alloc _)
  have KWA : Hid (Keep w WA) := Lib.hid ((K1.out.butNew KB3.out (fun x hx => by have := RW.out; omega)).trans KA3.out)
  have RESA := Lib.hid ((B1.out.but KB3.out (by have := RW.out; omega)).keep KA3.out)
  have RLX := Lib.hid (show r < x by rw [hx]; exact ST3.out.lt)
  have XLT := Lib.hid (show x < WA.heap.size by rw [hx, hWA]; simp)
  have RWX := Lib.hid (And.intro RW.out RLX.out)
  have NN : Hid (w.heap.size ≤ r ∧ w.heap.size ≤ x) := Lib.hid ⟨by have := RW.out; omega, by have := RWX.out; omega⟩
  have P : Hid (LpAt (⟨r, x, .slice ip l.length ic, l, WA, 39, 8⟩ : LFix) #[.int .u32 (sz : Int), (.slice none 0 0), (.slice none 0 0), (.slice none 0 0), .int .i64 0, .int .u32 0, (.slice none 0 0)] (.slice none 0 0) 0 [] S2 WA) := Lib.hid ⟨KeepBut.refl _ _, ST3.out.keep KA3.out, by show Box WA x _; rw [hWA, hx]; exact Box.new _ _ _, World.ownsRow_nil _ _ _ _, fun e => by have e2 : r = x := e; have := RWX.out; omega, by show r < WA.heap.size; have := XLT.out; have := RWX.out; omega, XLT.out, by simp⟩
  go_wp2_with fail
  rw [← hWA]
  rw [← hx]
  clear hWA hx
  have CC := Lib.hid (icount_any w r _ l HX.out S2 64 (by decide) _ P.out.rd KWA.out)
  go_wp2_with fail
  refine CC.out.mono ?_
  rintro e w_3 ⟨v, n1, S3, rfl, ⟨rfl, hn1⟩, hst, hgot, hk⟩
  have G3 := Lib.hid hgot
  have PP := Lib.hid (P.out.read hk hst)
  clear P
  have P := Lib.hid PP.out
  clear PP
  have Hn1 := Lib.hid hn1
  clear hst hgot hk CC hn1
  go_wp2_with fail
  go_loopw [16] (fun i wr => ∃ (ps : List PartV) (SL : RSt) (vv : Value) (ves : List Value), ps.length ≤ n1 ∧ i = .int .i64 (ps.length : Int) ∧ LpAt (⟨r, x, .slice ip l.length ic, l, WA, 39, 8⟩ : LFix) #[.int .u32 (sz : Int), vv, (.slice none 0 0), (.slice none 0 0), .int .i64 0, .int .u32 0, (.slice none 0 0)] vv ps.length (partRows ps ves) SL wr ∧ PEnts WA.heap.size wr vv ps ves ∧ ManyAt (S3.run (manyR (partR l) n1)) (partR l) n1 ps SL ∧ ∀ s ∈ ps, PartNum s) (fun i _ => n1 - (intOf i).toNat)
  case atStart => exact ⟨[], S3, _, [], Nat.zero_le _, rfl, P.out, PEnts.nil _ _ _, ManyAt.start, fun s hs => nomatch hs⟩
  case round =>
    obtain ⟨ps, SL, vv, ves, hos, rfl, hP, hPE, hM, hO⟩ := hrel
    clear P
    have P := Lib.hid hP
    have PE := Lib.hid hPE
    have LV := Lib.hid hPE.len
    clear hPE
    have MA := Lib.hid hM
    have OS := Lib.hid hO
    clear hP hM hO
    by_cases hlt : ps.length < n1
    · have hd : decide ((ps.length : Int) < (n1 : Int)) = true := decide_eq_true (by omega)
      have hd2 : (ps.length : Int) < (n1 : Int) := by omega
      have NB := Lib.hid (show ps.length + 1 ≤ 64 by have := Hn1.out; omega)
      have HLT := Lib.hid hlt
      have wq : IntKind.i64.wrap ((ps.length : Int) + 1) = (ps.length : Int) + 1 := by have := NB.out; rw [IntKind.wrap_i64]; omega
      clear hlt
      go_wp2_with fail
      refine Rel.regionP (KeepBut (fun z => z = r ∨ z = x ∨ WA.heap.size ≤ z)) (butWay _) [] [0, 2] 6 (by kernel_rfl) (by kernel_rfl) (Keep.refl _) ?_
      repeat (apply Rel.pre_step (by rfl) (by rfl) (by rfl)
              · intro W' hW'
                go_simp
                exact ⟨rfl, Keep.refl _⟩
              go_simp)
      apply Rel.pre_end
      refine Rel.every_two 1 3 (by kernel_rfl) (by rfl) (by rfl) (by rfl) (by rfl) ?_ ?_
      · intro W1 h1
        have PP := Lib.hid (P.out.keep' h1)
        have PE := Lib.hid (PE.out.keep h1)
        skip
        have BX : Box W1 x #[.int .u32 (sz : Int), vv, (.slice none 0 0), (.slice none 0 0), .int .i64 0, .int .u32 0, (.slice none 0 0)] := PP.out.box
        have cx := BX.cells
        go_simp
        apply Rel.gives_value
        refine ⟨KeepBut.refl _ _, ?_⟩
        clear h1 cx BX P
        have P := PP
        clear PP
        go_simp
        apply Rel.every_one 3 (by kernel_rfl) (by rfl) (by rfl)
        intro W2 h2
        have P2 := Lib.hid (P.out.keep' h2)
        have PE := Lib.hid (PE.out.keep h2)
        go_simp
        apply Rel.gives_enter
        go_at_call 48
        refine (ipartR_any w r _ l HX.out SL W2 P2.out.rd (KWA.out.butNew P2.out.but (fun y hy => by have h2 : y = r ∨ y = x := hy; have := NN.out; omega))).mono ?_
        rintro e w8 ⟨v, s, S', rfl, ⟨vs_, rfl, hso, hsn⟩, hst, hgot, hk⟩
        refine ⟨_, rfl, hk.mono (fun _ _ h => .inl h), ?_⟩
        have PP := Lib.hid (P2.out.read hk hst)
        have GG := Lib.hid (show Got (SL.run (partR l)) s S' from hgot)
        have HSN := Lib.hid hsn
        obtain ⟨pe_, ce_, hve_, _, _, _⟩ := owns_cells hso (by have := hsn.few; unfold maxLen; omega)
        subst hve_
        have PN := Lib.hid (show PEnts WA.heap.size w8 vv (ps ++ [s]) (ves ++ [.slice pe_ s.entries.length ce_]) from (PE.out.but hk (fun g hg => by have := NN.out; have h2 := P2.out.rlt; have h3 : r < WA.heap.size := h2; omega)).snoc s _ (owns_base hso P2.out.but.size) (fun g hg e => by have := (World.ownsRow.lt hso g hg).1; have := (P2.out.low g e).2; omega))
        have PE := Lib.hid PN.out
        clear hk hst hgot h2 P2 P hso hsn
        have P := PP
        clear PP
        unfold partVal
        go_simp
        apply Rel.every_one 4 (by kernel_rfl) (by rfl) (by rfl)
        intro W4 h4
        go_simp
        apply Rel.gives_value
        refine ⟨((Keep.refl _).alloc _).but _, ?_⟩
        have PP := Lib.hid (P.out.keep' (h4.alloc (.cells #[.string s.name, .int .u32 s.code.at_, .int .u32 s.code.size, .int .u32 s.data.at_, .int .u32 s.data.size, .int .u32 s.stack.at_, .int .u32 s.stack.size, .slice pe_ s.entries.length ce_] 39)))
        have PE := Lib.hid (PE.out.keep (h4.alloc (.cells #[.string s.name, .int .u32 s.code.at_, .int .u32 s.code.size, .int .u32 s.data.at_, .int .u32 s.data.size, .int .u32 s.stack.at_, .int .u32 s.stack.size, .slice pe_ s.entries.length ce_] 39)))
        have BB := Lib.hid (Box.new W4 #[.string s.name, .int .u32 s.code.at_, .int .u32 s.code.size, .int .u32 s.data.at_, .int .u32 s.data.size, .int .u32 s.stack.at_, .int .u32 s.stack.size, .slice pe_ s.entries.length ce_] 39)
        obtain ⟨gb, hgb⟩ : ∃ gb, gb = W4.heap.size := ⟨_, rfl⟩
        rw [← hgb] at BB ⊢
        obtain ⟨WB, hWB⟩ : ∃ WB, WB = W4.alloc (.cells #[.string s.name, .int .u32 s.code.at_, .int .u32 s.code.size, .int .u32 s.data.at_, .int .u32 s.data.size, .int .u32 s.stack.at_, .int .u32 s.stack.size, .slice pe_ s.entries.length ce_] 39) := ⟨_, rfl⟩
        rw [← hWB] at PP BB PE ⊢
        clear hWB hgb h4 P
        have P := PP
        clear PP
        go_simp
        apply Rel.every_one 5 (by kernel_rfl) (by rfl) (by rfl)
        intro W6 h6
        have P6 := Lib.hid (P.out.keep' h6)
        have PE := Lib.hid (PE.out.keep h6)
        have B6 := BB.out.keep h6
        refine gives_append_src W6 (.tmp 19) (.tmp 22) 23 23 rfl WA.heap.size 39 i1 _ 8 64 Tryd.underlying23 hi1 hy10 hy11 hy12 rfl _ _ _ rfl P6.out.row (.slice (some ⟨gb, 0, none⟩) 1 1) 1 (partRow (s, .slice pe_ s.entries.length ce_)) rfl (Src.ofSlice W6 Tryd.underlying23 _ 1 1 _ rfl (fun j u hj => by rw [show (⟨gb, 0, none⟩ : Addr).add j = ⟨gb, j, none⟩ by unfold Addr.add; split <;> simp_all]; rw [B6.cells]; simpa [partRow] using hj) (fun u hu => by simp [partRow] at hu; rcases hu with rfl | rfl | rfl | rfl | rfl | rfl | rfl | rfl <;> rfl)) (by have := NB.out; unfold maxLen; omega) (by have := NB.out; omega) P6.out.but.size ?_
        intro v7 V7 o7 g7 b7
        refine ⟨grown_but g7 _ (fun g hg => .inr (.inr (P6.out.low g hg).1)), ?_⟩
        have PP := Lib.hid (P6.out.push o7 g7 (P6.out.rd.grown g7 (own_no3 P6.out.row (fun c => by show c * 8 ≠ 3; omega))))
        have PE := Lib.hid (PE.out.grow g7 b7)
        have NV := Lib.hid (show ps.length + 1 ≤ maxLen by have := NB.out; unfold maxLen; omega)
        obtain ⟨pv, cv, hv7, _, _, _⟩ := owns_cells o7 NV.out
        obtain ⟨nv, hnv⟩ : ∃ nv, nv = ps.length + 1 := ⟨_, rfl⟩
        rw [← hnv] at hv7
        clear hnv
        subst hv7
        clear o7 g7 b7 h6 B6 P6 P BB
        have P := PP
        clear PP
        go_simp
        apply Rel.every_one 6 (by kernel_rfl) (by rfl) (by rfl)
        intro W8 h8
        go_simp
        apply Rel.gives_value
        refine ⟨KeepBut.refl _ _, ?_⟩
        have PP := Lib.hid (P.out.keep' h8)
        have PE := Lib.hid (PE.out.keep h8)
        clear h8 P
        have P := PP
        clear PP
        go_simp
        apply Rel.every_one 7 (by kernel_rfl) (by rfl) (by rfl)
        intro W9 h9
        have P9 := Lib.hid (P.out.keep' h9)
        have PE := Lib.hid (PE.out.keep h9)
        have BX : Box W9 x #[.int .u32 (sz : Int), vv, (.slice none 0 0), (.slice none 0 0), .int .i64 0, .int .u32 0, (.slice none 0 0)] := P9.out.box
        have cx := BX.cells
        have fx := BX.thawed
        go_simp
        apply Rel.gives_skip
        refine ⟨KeepBut.setAt (S := fun z => z = r ∨ z = x ∨ WA.heap.size ≤ z) (.inl (.inr (.inl rfl))) (KeepBut.refl _ _) _, ?_⟩
        have PE := Lib.hid (PE.out.but (KeepBut.setAt (S := fun z => z = x) (b := x) (i := 1) (.inl rfl) (KeepBut.refl _ _) (.slice pv nv cv)) (fun g hg => by have h2 := P9.out.xlt; have h3 : x < WA.heap.size := h2; omega))
        have PP := Lib.hid (P9.out.store 1 (.slice pv nv cv) (C' := #[.int .u32 (sz : Int), (.slice pv nv cv), (.slice none 0 0), (.slice none 0 0), .int .i64 0, .int .u32 0, (.slice none 0 0)]) rfl)
        clear h9 cx fx BX P9 P
        have P := PP
        clear PP
        go_simp
        refine Rel.every_end (by kernel_rfl) ?_
        intro WA hA
        have PP := Lib.hid (P.out.keep' hA)
        have PE := Lib.hid (PE.out.keep hA)
        clear hA P
        have P := PP
        clear PP
        go_wp2_with fail
        go_roundw
        case rel => exact ⟨ps ++ [s], S', .slice pv nv cv, ves ++ [.slice pe_ s.entries.length ce_], by have := HLT.out; simp; omega, by simp, by rw [partRows_snoc _ _ _ _ LV.out, List.length_append]; exact P.out, PE.out, MA.out.more HLT.out GG.out, fun s2 hs2 => by
          rcases List.mem_append.1 hs2 with h | h
          · exact OS.out s2 h
          · rw [List.mem_singleton] at h; subst h; exact HSN.out⟩
        case measure => have := HLT.out; simp [intOf]; omega
      · intro W2 h2
        have P2 := Lib.hid (P.out.keep' h2)
        have PE := Lib.hid (PE.out.keep h2)
        go_simp
        apply Rel.gives_enter
        go_at_call 48
        refine (ipartR_any w r _ l HX.out SL W2 P2.out.rd (KWA.out.butNew P2.out.but (fun y hy => by have h2 : y = r ∨ y = x := hy; have := NN.out; omega))).mono ?_
        rintro e w8 ⟨v, s, S', rfl, ⟨vs_, rfl, hso, hsn⟩, hst, hgot, hk⟩
        refine ⟨_, rfl, hk.mono (fun _ _ h => .inl h), ?_⟩
        have PP := Lib.hid (P2.out.read hk hst)
        have GG := Lib.hid (show Got (SL.run (partR l)) s S' from hgot)
        have HSN := Lib.hid hsn
        obtain ⟨pe_, ce_, hve_, _, _, _⟩ := owns_cells hso (by have := hsn.few; unfold maxLen; omega)
        subst hve_
        have PN := Lib.hid (show PEnts WA.heap.size w8 vv (ps ++ [s]) (ves ++ [.slice pe_ s.entries.length ce_]) from (PE.out.but hk (fun g hg => by have := NN.out; have h2 := P2.out.rlt; have h3 : r < WA.heap.size := h2; omega)).snoc s _ (owns_base hso P2.out.but.size) (fun g hg e => by have := (World.ownsRow.lt hso g hg).1; have := (P2.out.low g e).2; omega))
        have PE := Lib.hid PN.out
        clear hk hst hgot h2 P2 P hso hsn
        have P := PP
        clear PP
        unfold partVal
        go_simp
        refine Rel.every_two 1 4 (by kernel_rfl) (by rfl) (by rfl) (by rfl) (by rfl) ?_ ?_
        · intro W1 h1
          have PP := Lib.hid (P.out.keep' h1)
          have PE := Lib.hid (PE.out.keep h1)
          skip
          have BX : Box W1 x #[.int .u32 (sz : Int), vv, (.slice none 0 0), (.slice none 0 0), .int .i64 0, .int .u32 0, (.slice none 0 0)] := PP.out.box
          have cx := BX.cells
          go_simp
          apply Rel.gives_value
          refine ⟨KeepBut.refl _ _, ?_⟩
          clear h1 cx BX P
          have P := PP
          clear PP
          go_simp
          apply Rel.every_one 4 (by kernel_rfl) (by rfl) (by rfl)
          intro W4 h4
          go_simp
          apply Rel.gives_value
          refine ⟨((Keep.refl _).alloc _).but _, ?_⟩
          have PP := Lib.hid (P.out.keep' (h4.alloc (.cells #[.string s.name, .int .u32 s.code.at_, .int .u32 s.code.size, .int .u32 s.data.at_, .int .u32 s.data.size, .int .u32 s.stack.at_, .int .u32 s.stack.size, .slice pe_ s.entries.length ce_] 39)))
          have PE := Lib.hid (PE.out.keep (h4.alloc (.cells #[.string s.name, .int .u32 s.code.at_, .int .u32 s.code.size, .int .u32 s.data.at_, .int .u32 s.data.size, .int .u32 s.stack.at_, .int .u32 s.stack.size, .slice pe_ s.entries.length ce_] 39)))
          have BB := Lib.hid (Box.new W4 #[.string s.name, .int .u32 s.code.at_, .int .u32 s.code.size, .int .u32 s.data.at_, .int .u32 s.data.size, .int .u32 s.stack.at_, .int .u32 s.stack.size, .slice pe_ s.entries.length ce_] 39)
          obtain ⟨gb, hgb⟩ : ∃ gb, gb = W4.heap.size := ⟨_, rfl⟩
          rw [← hgb] at BB ⊢
          obtain ⟨WB, hWB⟩ : ∃ WB, WB = W4.alloc (.cells #[.string s.name, .int .u32 s.code.at_, .int .u32 s.code.size, .int .u32 s.data.at_, .int .u32 s.data.size, .int .u32 s.stack.at_, .int .u32 s.stack.size, .slice pe_ s.entries.length ce_] 39) := ⟨_, rfl⟩
          rw [← hWB] at PP BB PE ⊢
          clear hWB hgb h4 P
          have P := PP
          clear PP
          go_simp
          apply Rel.every_one 5 (by kernel_rfl) (by rfl) (by rfl)
          intro W6 h6
          have P6 := Lib.hid (P.out.keep' h6)
          have PE := Lib.hid (PE.out.keep h6)
          have B6 := BB.out.keep h6
          refine gives_append_src W6 (.tmp 19) (.tmp 22) 23 23 rfl WA.heap.size 39 i1 _ 8 64 Tryd.underlying23 hi1 hy10 hy11 hy12 rfl _ _ _ rfl P6.out.row (.slice (some ⟨gb, 0, none⟩) 1 1) 1 (partRow (s, .slice pe_ s.entries.length ce_)) rfl (Src.ofSlice W6 Tryd.underlying23 _ 1 1 _ rfl (fun j u hj => by rw [show (⟨gb, 0, none⟩ : Addr).add j = ⟨gb, j, none⟩ by unfold Addr.add; split <;> simp_all]; rw [B6.cells]; simpa [partRow] using hj) (fun u hu => by simp [partRow] at hu; rcases hu with rfl | rfl | rfl | rfl | rfl | rfl | rfl | rfl <;> rfl)) (by have := NB.out; unfold maxLen; omega) (by have := NB.out; omega) P6.out.but.size ?_
          intro v7 V7 o7 g7 b7
          refine ⟨grown_but g7 _ (fun g hg => .inr (.inr (P6.out.low g hg).1)), ?_⟩
          have PP := Lib.hid (P6.out.push o7 g7 (P6.out.rd.grown g7 (own_no3 P6.out.row (fun c => by show c * 8 ≠ 3; omega))))
          have PE := Lib.hid (PE.out.grow g7 b7)
          have NV := Lib.hid (show ps.length + 1 ≤ maxLen by have := NB.out; unfold maxLen; omega)
          obtain ⟨pv, cv, hv7, _, _, _⟩ := owns_cells o7 NV.out
          obtain ⟨nv, hnv⟩ : ∃ nv, nv = ps.length + 1 := ⟨_, rfl⟩
          rw [← hnv] at hv7
          clear hnv
          subst hv7
          clear o7 g7 b7 h6 B6 P6 P BB
          have P := PP
          clear PP
          go_simp
          apply Rel.every_one 6 (by kernel_rfl) (by rfl) (by rfl)
          intro W8 h8
          go_simp
          apply Rel.gives_value
          refine ⟨KeepBut.refl _ _, ?_⟩
          have PP := Lib.hid (P.out.keep' h8)
          have PE := Lib.hid (PE.out.keep h8)
          clear h8 P
          have P := PP
          clear PP
          go_simp
          apply Rel.every_one 7 (by kernel_rfl) (by rfl) (by rfl)
          intro W9 h9
          have P9 := Lib.hid (P.out.keep' h9)
          have PE := Lib.hid (PE.out.keep h9)
          have BX : Box W9 x #[.int .u32 (sz : Int), vv, (.slice none 0 0), (.slice none 0 0), .int .i64 0, .int .u32 0, (.slice none 0 0)] := P9.out.box
          have cx := BX.cells
          have fx := BX.thawed
          go_simp
          apply Rel.gives_skip
          refine ⟨KeepBut.setAt (S := fun z => z = r ∨ z = x ∨ WA.heap.size ≤ z) (.inl (.inr (.inl rfl))) (KeepBut.refl _ _) _, ?_⟩
          have PE := Lib.hid (PE.out.but (KeepBut.setAt (S := fun z => z = x) (b := x) (i := 1) (.inl rfl) (KeepBut.refl _ _) (.slice pv nv cv)) (fun g hg => by have h2 := P9.out.xlt; have h3 : x < WA.heap.size := h2; omega))
          have PP := Lib.hid (P9.out.store 1 (.slice pv nv cv) (C' := #[.int .u32 (sz : Int), (.slice pv nv cv), (.slice none 0 0), (.slice none 0 0), .int .i64 0, .int .u32 0, (.slice none 0 0)]) rfl)
          clear h9 cx fx BX P9 P
          have P := PP
          clear PP
          go_simp
          refine Rel.every_end (by kernel_rfl) ?_
          intro WA hA
          have PP := Lib.hid (P.out.keep' hA)
          have PE := Lib.hid (PE.out.keep hA)
          clear hA P
          have P := PP
          clear PP
          go_wp2_with fail
          go_roundw
          case rel => exact ⟨ps ++ [s], S', .slice pv nv cv, ves ++ [.slice pe_ s.entries.length ce_], by have := HLT.out; simp; omega, by simp, by rw [partRows_snoc _ _ _ _ LV.out, List.length_append]; exact P.out, PE.out, MA.out.more HLT.out GG.out, fun s2 hs2 => by
            rcases List.mem_append.1 hs2 with h | h
            · exact OS.out s2 h
            · rw [List.mem_singleton] at h; subst h; exact HSN.out⟩
          case measure => have := HLT.out; simp [intOf]; omega
        · intro W4 h4
          go_simp
          apply Rel.gives_value
          refine ⟨((Keep.refl _).alloc _).but _, ?_⟩
          have PP := Lib.hid (P.out.keep' (h4.alloc (.cells #[.string s.name, .int .u32 s.code.at_, .int .u32 s.code.size, .int .u32 s.data.at_, .int .u32 s.data.size, .int .u32 s.stack.at_, .int .u32 s.stack.size, .slice pe_ s.entries.length ce_] 39)))
          have PE := Lib.hid (PE.out.keep (h4.alloc (.cells #[.string s.name, .int .u32 s.code.at_, .int .u32 s.code.size, .int .u32 s.data.at_, .int .u32 s.data.size, .int .u32 s.stack.at_, .int .u32 s.stack.size, .slice pe_ s.entries.length ce_] 39)))
          have BB := Lib.hid (Box.new W4 #[.string s.name, .int .u32 s.code.at_, .int .u32 s.code.size, .int .u32 s.data.at_, .int .u32 s.data.size, .int .u32 s.stack.at_, .int .u32 s.stack.size, .slice pe_ s.entries.length ce_] 39)
          obtain ⟨gb, hgb⟩ : ∃ gb, gb = W4.heap.size := ⟨_, rfl⟩
          rw [← hgb] at BB ⊢
          obtain ⟨WB, hWB⟩ : ∃ WB, WB = W4.alloc (.cells #[.string s.name, .int .u32 s.code.at_, .int .u32 s.code.size, .int .u32 s.data.at_, .int .u32 s.data.size, .int .u32 s.stack.at_, .int .u32 s.stack.size, .slice pe_ s.entries.length ce_] 39) := ⟨_, rfl⟩
          rw [← hWB] at PP BB PE ⊢
          clear hWB hgb h4 P
          have P := PP
          clear PP
          go_simp
          apply Rel.every_one 1 (by kernel_rfl) (by rfl) (by rfl)
          intro W1 h1
          have PP := Lib.hid (P.out.keep' h1)
          have PE := Lib.hid (PE.out.keep h1)
          have BB := Lib.hid (BB.out.keep h1)
          have BX : Box W1 x #[.int .u32 (sz : Int), vv, (.slice none 0 0), (.slice none 0 0), .int .i64 0, .int .u32 0, (.slice none 0 0)] := PP.out.box
          have cx := BX.cells
          go_simp
          apply Rel.gives_value
          refine ⟨KeepBut.refl _ _, ?_⟩
          clear h1 cx BX P
          have P := PP
          clear PP
          go_simp
          apply Rel.every_one 5 (by kernel_rfl) (by rfl) (by rfl)
          intro W6 h6
          have P6 := Lib.hid (P.out.keep' h6)
          have PE := Lib.hid (PE.out.keep h6)
          have B6 := BB.out.keep h6
          refine gives_append_src W6 (.tmp 19) (.tmp 22) 23 23 rfl WA.heap.size 39 i1 _ 8 64 Tryd.underlying23 hi1 hy10 hy11 hy12 rfl _ _ _ rfl P6.out.row (.slice (some ⟨gb, 0, none⟩) 1 1) 1 (partRow (s, .slice pe_ s.entries.length ce_)) rfl (Src.ofSlice W6 Tryd.underlying23 _ 1 1 _ rfl (fun j u hj => by rw [show (⟨gb, 0, none⟩ : Addr).add j = ⟨gb, j, none⟩ by unfold Addr.add; split <;> simp_all]; rw [B6.cells]; simpa [partRow] using hj) (fun u hu => by simp [partRow] at hu; rcases hu with rfl | rfl | rfl | rfl | rfl | rfl | rfl | rfl <;> rfl)) (by have := NB.out; unfold maxLen; omega) (by have := NB.out; omega) P6.out.but.size ?_
          intro v7 V7 o7 g7 b7
          refine ⟨grown_but g7 _ (fun g hg => .inr (.inr (P6.out.low g hg).1)), ?_⟩
          have PP := Lib.hid (P6.out.push o7 g7 (P6.out.rd.grown g7 (own_no3 P6.out.row (fun c => by show c * 8 ≠ 3; omega))))
          have PE := Lib.hid (PE.out.grow g7 b7)
          have NV := Lib.hid (show ps.length + 1 ≤ maxLen by have := NB.out; unfold maxLen; omega)
          obtain ⟨pv, cv, hv7, _, _, _⟩ := owns_cells o7 NV.out
          obtain ⟨nv, hnv⟩ : ∃ nv, nv = ps.length + 1 := ⟨_, rfl⟩
          rw [← hnv] at hv7
          clear hnv
          subst hv7
          clear o7 g7 b7 h6 B6 P6 P BB
          have P := PP
          clear PP
          go_simp
          apply Rel.every_one 6 (by kernel_rfl) (by rfl) (by rfl)
          intro W8 h8
          go_simp
          apply Rel.gives_value
          refine ⟨KeepBut.refl _ _, ?_⟩
          have PP := Lib.hid (P.out.keep' h8)
          have PE := Lib.hid (PE.out.keep h8)
          clear h8 P
          have P := PP
          clear PP
          go_simp
          apply Rel.every_one 7 (by kernel_rfl) (by rfl) (by rfl)
          intro W9 h9
          have P9 := Lib.hid (P.out.keep' h9)
          have PE := Lib.hid (PE.out.keep h9)
          have BX : Box W9 x #[.int .u32 (sz : Int), vv, (.slice none 0 0), (.slice none 0 0), .int .i64 0, .int .u32 0, (.slice none 0 0)] := P9.out.box
          have cx := BX.cells
          have fx := BX.thawed
          go_simp
          apply Rel.gives_skip
          refine ⟨KeepBut.setAt (S := fun z => z = r ∨ z = x ∨ WA.heap.size ≤ z) (.inl (.inr (.inl rfl))) (KeepBut.refl _ _) _, ?_⟩
          have PE := Lib.hid (PE.out.but (KeepBut.setAt (S := fun z => z = x) (b := x) (i := 1) (.inl rfl) (KeepBut.refl _ _) (.slice pv nv cv)) (fun g hg => by have h2 := P9.out.xlt; have h3 : x < WA.heap.size := h2; omega))
          have PP := Lib.hid (P9.out.store 1 (.slice pv nv cv) (C' := #[.int .u32 (sz : Int), (.slice pv nv cv), (.slice none 0 0), (.slice none 0 0), .int .i64 0, .int .u32 0, (.slice none 0 0)]) rfl)
          clear h9 cx fx BX P9 P
          have P := PP
          clear PP
          go_simp
          refine Rel.every_end (by kernel_rfl) ?_
          intro WA hA
          have PP := Lib.hid (P.out.keep' hA)
          have PE := Lib.hid (PE.out.keep hA)
          clear hA P
          have P := PP
          clear PP
          go_wp2_with fail
          go_roundw
          case rel => exact ⟨ps ++ [s], S', .slice pv nv cv, ves ++ [.slice pe_ s.entries.length ce_], by have := HLT.out; simp; omega, by simp, by rw [partRows_snoc _ _ _ _ LV.out, List.length_append]; exact P.out, PE.out, MA.out.more HLT.out GG.out, fun s2 hs2 => by
            rcases List.mem_append.1 hs2 with h | h
            · exact OS.out s2 h
            · rw [List.mem_singleton] at h; subst h; exact HSN.out⟩
          case measure => have := HLT.out; simp [intOf]; omega
    · have HEQ := Lib.hid (show ps.length = n1 by omega)
      have hd : decide ((ps.length : Int) < (n1 : Int)) = false := decide_eq_false (by omega)
      have GL1 := Lib.hid (MA.out.done HEQ.out)
      have HL1 := Lib.hid (show ps.length ≤ 64 by have := Hn1.out; omega)
      have ON1 := Lib.hid OS.out
      clear HEQ hd MA OS hos
      obtain ⟨WB_, rfl⟩ : ∃ W, W = wr := ⟨_, rfl⟩
      obtain ⟨S4, rfl⟩ : ∃ S, S = SL := ⟨_, rfl⟩
      obtain ⟨pp, pc, hvv, _, _, _⟩ := owns_cells P.out.row (by have := HL1.out; unfold maxLen; omega)
      subst hvv
      have PA := Lib.hid P.out
      have PEA := Lib.hid PE.out
      have KWB := Lib.hid (KWA.out.butNew P.out.but (fun y hy => by have h2 : y = r ∨ y = x := hy; have := NN.out; omega))
      have RESB := Lib.hid (RESA.out.but P.out.but (by intro e; have h2 : w.heap.size = r ∨ w.heap.size = x := e; have := RWX.out; omega))
      have P0 : Hid (LpAt (⟨r, x, .slice ip l.length ic, l, WB_, 36, 2⟩ : LFix) #[.int .u32 (sz : Int), (.slice pp ps.length pc), (.slice none 0 0), (.slice none 0 0), .int .i64 0, .int .u32 0, (.slice none 0 0)] (.slice none 0 0) 0 [] S4 WB_) := Lib.hid ⟨KeepBut.refl _ _, P.out.rd, P.out.box, World.ownsRow_nil _ _ _ _, P.out.rx, Nat.lt_of_lt_of_le P.out.rlt P.out.but.size, Nat.lt_of_lt_of_le P.out.xlt P.out.but.size, by simp⟩
      clear P
      have P := Lib.hid P0.out
      clear P0
      have CC := Lib.hid (icount_any w r _ l HX.out S4 64 (by decide) _ P.out.rd KWB.out)
      go_wp2_with fail
      refine CC.out.mono ?_
      rintro e w_5 ⟨v, n2, S5, rfl, ⟨rfl, hn2⟩, hst, hgot, hk⟩
      have G5 := Lib.hid hgot
      have PP := Lib.hid (P.out.read hk hst)
      clear P
      have P := Lib.hid PP.out
      clear PP
      have Hn2 := Lib.hid hn2
      clear hst hgot hk CC hn2
      go_wp2_with fail
      go_loopw [28] (fun i wr => ∃ (ss : List SpanV) (SL : RSt) (vv : Value), ss.length ≤ n2 ∧ i = .int .i64 (ss.length : Int) ∧ LpAt (⟨r, x, .slice ip l.length ic, l, WB_, 36, 2⟩ : LFix) #[.int .u32 (sz : Int), (.slice pp ps.length pc), vv, (.slice none 0 0), .int .i64 0, .int .u32 0, (.slice none 0 0)] vv ss.length (spanRows ss) SL wr ∧ ManyAt (S5.run (manyR (spanR l) n2)) (spanR l) n2 ss SL ∧ ∀ s ∈ ss, SpanOk s) (fun i _ => n2 - (intOf i).toNat)
      case atStart => exact ⟨[], S5, _, Nat.zero_le _, rfl, P.out, ManyAt.start, fun s hs => nomatch hs⟩
      case round =>
        obtain ⟨ss, SL, vv, hos, rfl, hP, hM, hO⟩ := hrel
        clear P
        have P := Lib.hid hP
        have MA := Lib.hid hM
        have OS := Lib.hid hO
        clear hP hM hO
        by_cases hlt : ss.length < n2
        · have hd : decide ((ss.length : Int) < (n2 : Int)) = true := decide_eq_true (by omega)
          have hd2 : (ss.length : Int) < (n2 : Int) := by omega
          have NB := Lib.hid (show ss.length + 1 ≤ 64 by have := Hn2.out; omega)
          have HLT := Lib.hid hlt
          have wq : IntKind.i64.wrap ((ss.length : Int) + 1) = (ss.length : Int) + 1 := by have := NB.out; rw [IntKind.wrap_i64]; omega
          clear hlt
          go_wp2_with fail
          refine Rel.regionP (KeepBut (fun z => z = r ∨ z = x ∨ WB_.heap.size ≤ z)) (butWay _) [] [0, 2] 6 (by kernel_rfl) (by kernel_rfl) (Keep.refl _) ?_
          repeat (apply Rel.pre_step (by rfl) (by rfl) (by rfl)
                  · intro W' hW'
                    go_simp
                    exact ⟨rfl, Keep.refl _⟩
                  go_simp)
          apply Rel.pre_end
          refine Rel.every_two 1 3 (by kernel_rfl) (by rfl) (by rfl) (by rfl) (by rfl) ?_ ?_
          · intro W1 h1
            have PP := Lib.hid (P.out.keep' h1)
            skip
            skip
            have BX : Box W1 x #[.int .u32 (sz : Int), (.slice pp ps.length pc), vv, (.slice none 0 0), .int .i64 0, .int .u32 0, (.slice none 0 0)] := PP.out.box
            have cx := BX.cells
            go_simp
            apply Rel.gives_value
            refine ⟨KeepBut.refl _ _, ?_⟩
            clear h1 cx BX P
            have P := PP
            clear PP
            go_simp
            apply Rel.every_one 3 (by kernel_rfl) (by rfl) (by rfl)
            intro W2 h2
            have P2 := Lib.hid (P.out.keep' h2)
            skip
            go_simp
            apply Rel.gives_enter
            go_at_call 49
            refine (ispanR_any w r _ l HX.out SL W2 P2.out.rd (KWB.out.butNew P2.out.but (fun y hy => by have h2 : y = r ∨ y = x := hy; have := NN.out; omega))).mono ?_
            rintro e w8 ⟨v, s, S', rfl, ⟨rfl, hsn⟩, hst, hgot, hk⟩
            refine ⟨_, rfl, hk.mono (fun _ _ h => .inl h), ?_⟩
            have PP := Lib.hid (P2.out.read hk hst)
            have GG := Lib.hid (show Got (SL.run (spanR l)) s S' from hgot)
            have HSN := Lib.hid hsn
            skip
            clear hk hst hgot h2 P2 P hsn
            have P := PP
            clear PP
            unfold spanVal
            go_simp
            apply Rel.every_one 4 (by kernel_rfl) (by rfl) (by rfl)
            intro W4 h4
            go_simp
            apply Rel.gives_value
            refine ⟨((Keep.refl _).alloc _).but _, ?_⟩
            have PP := Lib.hid (P.out.keep' (h4.alloc (.cells #[.int .u32 s.at_, .int .u32 s.size] 36)))
            skip
            have BB := Lib.hid (Box.new W4 #[.int .u32 s.at_, .int .u32 s.size] 36)
            obtain ⟨gb, hgb⟩ : ∃ gb, gb = W4.heap.size := ⟨_, rfl⟩
            rw [← hgb] at BB ⊢
            obtain ⟨WB, hWB⟩ : ∃ WB, WB = W4.alloc (.cells #[.int .u32 s.at_, .int .u32 s.size] 36) := ⟨_, rfl⟩
            rw [← hWB] at PP BB  ⊢
            clear hWB hgb h4 P
            have P := PP
            clear PP
            go_simp
            apply Rel.every_one 5 (by kernel_rfl) (by rfl) (by rfl)
            intro W6 h6
            have P6 := Lib.hid (P.out.keep' h6)
            skip
            have B6 := BB.out.keep h6
            refine gives_append_src W6 (.tmp 31) (.tmp 34) 24 24 rfl WB_.heap.size 36 i2 _ 2 8 Tryd.underlying24 hi2 hy20 hy21 hy22 rfl _ _ _ rfl P6.out.row (.slice (some ⟨gb, 0, none⟩) 1 1) 1 (spanRow s) rfl (Src.ofSlice W6 Tryd.underlying24 _ 1 1 _ rfl (fun j u hj => by rw [show (⟨gb, 0, none⟩ : Addr).add j = ⟨gb, j, none⟩ by unfold Addr.add; split <;> simp_all]; rw [B6.cells]; simpa [spanRow] using hj) (fun u hu => by simp [spanRow] at hu; rcases hu with rfl | rfl <;> rfl)) (by have := NB.out; unfold maxLen; omega) (by have := NB.out; omega) P6.out.but.size ?_
            intro v7 V7 o7 g7 b7
            refine ⟨grown_but g7 _ (fun g hg => .inr (.inr (P6.out.low g hg).1)), ?_⟩
            have PP := Lib.hid (P6.out.push o7 g7 (P6.out.rd.grown g7 (own_no3 P6.out.row (fun c => by show c * 2 ≠ 3; omega))))
            skip
            have NV := Lib.hid (show ss.length + 1 ≤ maxLen by have := NB.out; unfold maxLen; omega)
            obtain ⟨pv, cv, hv7, _, _, _⟩ := owns_cells o7 NV.out
            obtain ⟨nv, hnv⟩ : ∃ nv, nv = ss.length + 1 := ⟨_, rfl⟩
            rw [← hnv] at hv7
            clear hnv
            subst hv7
            clear o7 g7 b7 h6 B6 P6 P BB
            have P := PP
            clear PP
            go_simp
            apply Rel.every_one 6 (by kernel_rfl) (by rfl) (by rfl)
            intro W8 h8
            go_simp
            apply Rel.gives_value
            refine ⟨KeepBut.refl _ _, ?_⟩
            have PP := Lib.hid (P.out.keep' h8)
            skip
            clear h8 P
            have P := PP
            clear PP
            go_simp
            apply Rel.every_one 7 (by kernel_rfl) (by rfl) (by rfl)
            intro W9 h9
            have P9 := Lib.hid (P.out.keep' h9)
            skip
            have BX : Box W9 x #[.int .u32 (sz : Int), (.slice pp ps.length pc), vv, (.slice none 0 0), .int .i64 0, .int .u32 0, (.slice none 0 0)] := P9.out.box
            have cx := BX.cells
            have fx := BX.thawed
            go_simp
            apply Rel.gives_skip
            refine ⟨KeepBut.setAt (S := fun z => z = r ∨ z = x ∨ WB_.heap.size ≤ z) (.inl (.inr (.inl rfl))) (KeepBut.refl _ _) _, ?_⟩
            skip
            have PP := Lib.hid (P9.out.store 2 (.slice pv nv cv) (C' := #[.int .u32 (sz : Int), (.slice pp ps.length pc), (.slice pv nv cv), (.slice none 0 0), .int .i64 0, .int .u32 0, (.slice none 0 0)]) rfl)
            clear h9 cx fx BX P9 P
            have P := PP
            clear PP
            go_simp
            refine Rel.every_end (by kernel_rfl) ?_
            intro WA hA
            have PP := Lib.hid (P.out.keep' hA)
            skip
            clear hA P
            have P := PP
            clear PP
            go_wp2_with fail
            go_roundw
            case rel => exact ⟨ss ++ [s], S', .slice pv nv cv, by have := HLT.out; simp; omega, by simp, by rw [show spanRows (ss ++ [s]) = spanRows ss ++ spanRow s by simp [spanRows], List.length_append]; exact P.out, MA.out.more HLT.out GG.out, fun s2 hs2 => by
              rcases List.mem_append.1 hs2 with h | h
              · exact OS.out s2 h
              · rw [List.mem_singleton] at h; subst h; exact HSN.out⟩
            case measure => have := HLT.out; simp [intOf]; omega
          · intro W2 h2
            have P2 := Lib.hid (P.out.keep' h2)
            skip
            go_simp
            apply Rel.gives_enter
            go_at_call 49
            refine (ispanR_any w r _ l HX.out SL W2 P2.out.rd (KWB.out.butNew P2.out.but (fun y hy => by have h2 : y = r ∨ y = x := hy; have := NN.out; omega))).mono ?_
            rintro e w8 ⟨v, s, S', rfl, ⟨rfl, hsn⟩, hst, hgot, hk⟩
            refine ⟨_, rfl, hk.mono (fun _ _ h => .inl h), ?_⟩
            have PP := Lib.hid (P2.out.read hk hst)
            have GG := Lib.hid (show Got (SL.run (spanR l)) s S' from hgot)
            have HSN := Lib.hid hsn
            skip
            clear hk hst hgot h2 P2 P hsn
            have P := PP
            clear PP
            unfold spanVal
            go_simp
            refine Rel.every_two 1 4 (by kernel_rfl) (by rfl) (by rfl) (by rfl) (by rfl) ?_ ?_
            · intro W1 h1
              have PP := Lib.hid (P.out.keep' h1)
              skip
              skip
              have BX : Box W1 x #[.int .u32 (sz : Int), (.slice pp ps.length pc), vv, (.slice none 0 0), .int .i64 0, .int .u32 0, (.slice none 0 0)] := PP.out.box
              have cx := BX.cells
              go_simp
              apply Rel.gives_value
              refine ⟨KeepBut.refl _ _, ?_⟩
              clear h1 cx BX P
              have P := PP
              clear PP
              go_simp
              apply Rel.every_one 4 (by kernel_rfl) (by rfl) (by rfl)
              intro W4 h4
              go_simp
              apply Rel.gives_value
              refine ⟨((Keep.refl _).alloc _).but _, ?_⟩
              have PP := Lib.hid (P.out.keep' (h4.alloc (.cells #[.int .u32 s.at_, .int .u32 s.size] 36)))
              skip
              have BB := Lib.hid (Box.new W4 #[.int .u32 s.at_, .int .u32 s.size] 36)
              obtain ⟨gb, hgb⟩ : ∃ gb, gb = W4.heap.size := ⟨_, rfl⟩
              rw [← hgb] at BB ⊢
              obtain ⟨WB, hWB⟩ : ∃ WB, WB = W4.alloc (.cells #[.int .u32 s.at_, .int .u32 s.size] 36) := ⟨_, rfl⟩
              rw [← hWB] at PP BB  ⊢
              clear hWB hgb h4 P
              have P := PP
              clear PP
              go_simp
              apply Rel.every_one 5 (by kernel_rfl) (by rfl) (by rfl)
              intro W6 h6
              have P6 := Lib.hid (P.out.keep' h6)
              skip
              have B6 := BB.out.keep h6
              refine gives_append_src W6 (.tmp 31) (.tmp 34) 24 24 rfl WB_.heap.size 36 i2 _ 2 8 Tryd.underlying24 hi2 hy20 hy21 hy22 rfl _ _ _ rfl P6.out.row (.slice (some ⟨gb, 0, none⟩) 1 1) 1 (spanRow s) rfl (Src.ofSlice W6 Tryd.underlying24 _ 1 1 _ rfl (fun j u hj => by rw [show (⟨gb, 0, none⟩ : Addr).add j = ⟨gb, j, none⟩ by unfold Addr.add; split <;> simp_all]; rw [B6.cells]; simpa [spanRow] using hj) (fun u hu => by simp [spanRow] at hu; rcases hu with rfl | rfl <;> rfl)) (by have := NB.out; unfold maxLen; omega) (by have := NB.out; omega) P6.out.but.size ?_
              intro v7 V7 o7 g7 b7
              refine ⟨grown_but g7 _ (fun g hg => .inr (.inr (P6.out.low g hg).1)), ?_⟩
              have PP := Lib.hid (P6.out.push o7 g7 (P6.out.rd.grown g7 (own_no3 P6.out.row (fun c => by show c * 2 ≠ 3; omega))))
              skip
              have NV := Lib.hid (show ss.length + 1 ≤ maxLen by have := NB.out; unfold maxLen; omega)
              obtain ⟨pv, cv, hv7, _, _, _⟩ := owns_cells o7 NV.out
              obtain ⟨nv, hnv⟩ : ∃ nv, nv = ss.length + 1 := ⟨_, rfl⟩
              rw [← hnv] at hv7
              clear hnv
              subst hv7
              clear o7 g7 b7 h6 B6 P6 P BB
              have P := PP
              clear PP
              go_simp
              apply Rel.every_one 6 (by kernel_rfl) (by rfl) (by rfl)
              intro W8 h8
              go_simp
              apply Rel.gives_value
              refine ⟨KeepBut.refl _ _, ?_⟩
              have PP := Lib.hid (P.out.keep' h8)
              skip
              clear h8 P
              have P := PP
              clear PP
              go_simp
              apply Rel.every_one 7 (by kernel_rfl) (by rfl) (by rfl)
              intro W9 h9
              have P9 := Lib.hid (P.out.keep' h9)
              skip
              have BX : Box W9 x #[.int .u32 (sz : Int), (.slice pp ps.length pc), vv, (.slice none 0 0), .int .i64 0, .int .u32 0, (.slice none 0 0)] := P9.out.box
              have cx := BX.cells
              have fx := BX.thawed
              go_simp
              apply Rel.gives_skip
              refine ⟨KeepBut.setAt (S := fun z => z = r ∨ z = x ∨ WB_.heap.size ≤ z) (.inl (.inr (.inl rfl))) (KeepBut.refl _ _) _, ?_⟩
              skip
              have PP := Lib.hid (P9.out.store 2 (.slice pv nv cv) (C' := #[.int .u32 (sz : Int), (.slice pp ps.length pc), (.slice pv nv cv), (.slice none 0 0), .int .i64 0, .int .u32 0, (.slice none 0 0)]) rfl)
              clear h9 cx fx BX P9 P
              have P := PP
              clear PP
              go_simp
              refine Rel.every_end (by kernel_rfl) ?_
              intro WA hA
              have PP := Lib.hid (P.out.keep' hA)
              skip
              clear hA P
              have P := PP
              clear PP
              go_wp2_with fail
              go_roundw
              case rel => exact ⟨ss ++ [s], S', .slice pv nv cv, by have := HLT.out; simp; omega, by simp, by rw [show spanRows (ss ++ [s]) = spanRows ss ++ spanRow s by simp [spanRows], List.length_append]; exact P.out, MA.out.more HLT.out GG.out, fun s2 hs2 => by
                rcases List.mem_append.1 hs2 with h | h
                · exact OS.out s2 h
                · rw [List.mem_singleton] at h; subst h; exact HSN.out⟩
              case measure => have := HLT.out; simp [intOf]; omega
            · intro W4 h4
              go_simp
              apply Rel.gives_value
              refine ⟨((Keep.refl _).alloc _).but _, ?_⟩
              have PP := Lib.hid (P.out.keep' (h4.alloc (.cells #[.int .u32 s.at_, .int .u32 s.size] 36)))
              skip
              have BB := Lib.hid (Box.new W4 #[.int .u32 s.at_, .int .u32 s.size] 36)
              obtain ⟨gb, hgb⟩ : ∃ gb, gb = W4.heap.size := ⟨_, rfl⟩
              rw [← hgb] at BB ⊢
              obtain ⟨WB, hWB⟩ : ∃ WB, WB = W4.alloc (.cells #[.int .u32 s.at_, .int .u32 s.size] 36) := ⟨_, rfl⟩
              rw [← hWB] at PP BB  ⊢
              clear hWB hgb h4 P
              have P := PP
              clear PP
              go_simp
              apply Rel.every_one 1 (by kernel_rfl) (by rfl) (by rfl)
              intro W1 h1
              have PP := Lib.hid (P.out.keep' h1)
              skip
              have BB := Lib.hid (BB.out.keep h1)
              have BX : Box W1 x #[.int .u32 (sz : Int), (.slice pp ps.length pc), vv, (.slice none 0 0), .int .i64 0, .int .u32 0, (.slice none 0 0)] := PP.out.box
              have cx := BX.cells
              go_simp
              apply Rel.gives_value
              refine ⟨KeepBut.refl _ _, ?_⟩
              clear h1 cx BX P
              have P := PP
              clear PP
              go_simp
              apply Rel.every_one 5 (by kernel_rfl) (by rfl) (by rfl)
              intro W6 h6
              have P6 := Lib.hid (P.out.keep' h6)
              skip
              have B6 := BB.out.keep h6
              refine gives_append_src W6 (.tmp 31) (.tmp 34) 24 24 rfl WB_.heap.size 36 i2 _ 2 8 Tryd.underlying24 hi2 hy20 hy21 hy22 rfl _ _ _ rfl P6.out.row (.slice (some ⟨gb, 0, none⟩) 1 1) 1 (spanRow s) rfl (Src.ofSlice W6 Tryd.underlying24 _ 1 1 _ rfl (fun j u hj => by rw [show (⟨gb, 0, none⟩ : Addr).add j = ⟨gb, j, none⟩ by unfold Addr.add; split <;> simp_all]; rw [B6.cells]; simpa [spanRow] using hj) (fun u hu => by simp [spanRow] at hu; rcases hu with rfl | rfl <;> rfl)) (by have := NB.out; unfold maxLen; omega) (by have := NB.out; omega) P6.out.but.size ?_
              intro v7 V7 o7 g7 b7
              refine ⟨grown_but g7 _ (fun g hg => .inr (.inr (P6.out.low g hg).1)), ?_⟩
              have PP := Lib.hid (P6.out.push o7 g7 (P6.out.rd.grown g7 (own_no3 P6.out.row (fun c => by show c * 2 ≠ 3; omega))))
              skip
              have NV := Lib.hid (show ss.length + 1 ≤ maxLen by have := NB.out; unfold maxLen; omega)
              obtain ⟨pv, cv, hv7, _, _, _⟩ := owns_cells o7 NV.out
              obtain ⟨nv, hnv⟩ : ∃ nv, nv = ss.length + 1 := ⟨_, rfl⟩
              rw [← hnv] at hv7
              clear hnv
              subst hv7
              clear o7 g7 b7 h6 B6 P6 P BB
              have P := PP
              clear PP
              go_simp
              apply Rel.every_one 6 (by kernel_rfl) (by rfl) (by rfl)
              intro W8 h8
              go_simp
              apply Rel.gives_value
              refine ⟨KeepBut.refl _ _, ?_⟩
              have PP := Lib.hid (P.out.keep' h8)
              skip
              clear h8 P
              have P := PP
              clear PP
              go_simp
              apply Rel.every_one 7 (by kernel_rfl) (by rfl) (by rfl)
              intro W9 h9
              have P9 := Lib.hid (P.out.keep' h9)
              skip
              have BX : Box W9 x #[.int .u32 (sz : Int), (.slice pp ps.length pc), vv, (.slice none 0 0), .int .i64 0, .int .u32 0, (.slice none 0 0)] := P9.out.box
              have cx := BX.cells
              have fx := BX.thawed
              go_simp
              apply Rel.gives_skip
              refine ⟨KeepBut.setAt (S := fun z => z = r ∨ z = x ∨ WB_.heap.size ≤ z) (.inl (.inr (.inl rfl))) (KeepBut.refl _ _) _, ?_⟩
              skip
              have PP := Lib.hid (P9.out.store 2 (.slice pv nv cv) (C' := #[.int .u32 (sz : Int), (.slice pp ps.length pc), (.slice pv nv cv), (.slice none 0 0), .int .i64 0, .int .u32 0, (.slice none 0 0)]) rfl)
              clear h9 cx fx BX P9 P
              have P := PP
              clear PP
              go_simp
              refine Rel.every_end (by kernel_rfl) ?_
              intro WA hA
              have PP := Lib.hid (P.out.keep' hA)
              skip
              clear hA P
              have P := PP
              clear PP
              go_wp2_with fail
              go_roundw
              case rel => exact ⟨ss ++ [s], S', .slice pv nv cv, by have := HLT.out; simp; omega, by simp, by rw [show spanRows (ss ++ [s]) = spanRows ss ++ spanRow s by simp [spanRows], List.length_append]; exact P.out, MA.out.more HLT.out GG.out, fun s2 hs2 => by
                rcases List.mem_append.1 hs2 with h | h
                · exact OS.out s2 h
                · rw [List.mem_singleton] at h; subst h; exact HSN.out⟩
              case measure => have := HLT.out; simp [intOf]; omega
        · have HEQ := Lib.hid (show ss.length = n2 by omega)
          have hd : decide ((ss.length : Int) < (n2 : Int)) = false := decide_eq_false (by omega)
          have GL2 := Lib.hid (MA.out.done HEQ.out)
          have HL2 := Lib.hid (show ss.length ≤ 64 by have := Hn2.out; omega)
          have ON2 := Lib.hid OS.out
          clear HEQ hd MA OS hos
          obtain ⟨WC_, rfl⟩ : ∃ W, W = wr := ⟨_, rfl⟩
          obtain ⟨S6, rfl⟩ : ∃ S, S = SL := ⟨_, rfl⟩
          obtain ⟨sp, sc, hvv, _, _, _⟩ := owns_cells P.out.row (by have := HL2.out; unfold maxLen; omega)
          subst hvv
          have PB := Lib.hid P.out
          have KWC := Lib.hid (KWB.out.butNew P.out.but (fun y hy => by have h2 : y = r ∨ y = x := hy; have := NN.out; omega))
          have RESC := Lib.hid (RESB.out.but P.out.but (by intro e; have h2 : w.heap.size = r ∨ w.heap.size = x := e; have := RWX.out; omega))
          have P0 : Hid (LpAt (⟨r, x, .slice ip l.length ic, l, WC_, 43, 7⟩ : LFix) #[.int .u32 (sz : Int), (.slice pp ps.length pc), (.slice sp ss.length sc), (.slice none 0 0), .int .i64 0, .int .u32 0, (.slice none 0 0)] (.slice none 0 0) 0 [] S6 WC_) := Lib.hid ⟨KeepBut.refl _ _, P.out.rd, P.out.box, World.ownsRow_nil _ _ _ _, P.out.rx, Nat.lt_of_lt_of_le P.out.rlt P.out.but.size, Nat.lt_of_lt_of_le P.out.xlt P.out.but.size, by simp⟩
          clear P
          have P := Lib.hid P0.out
          clear P0
          have CC := Lib.hid (icount_any w r _ l HX.out S6 512 (by decide) _ P.out.rd KWC.out)
          go_wp2_with fail
          refine CC.out.mono ?_
          rintro e w_7 ⟨v, n3, S7, rfl, ⟨rfl, hn3⟩, hst, hgot, hk⟩
          have G7 := Lib.hid hgot
          have PP := Lib.hid (P.out.read hk hst)
          clear P
          have P := Lib.hid PP.out
          clear PP
          have Hn3 := Lib.hid hn3
          clear hst hgot hk CC hn3
          go_wp2_with fail
          go_loopw [40] (fun i wr => ∃ (xs : List InitV) (SL : RSt) (vv : Value), xs.length ≤ n3 ∧ i = .int .i64 (xs.length : Int) ∧ LpAt (⟨r, x, .slice ip l.length ic, l, WC_, 43, 7⟩ : LFix) #[.int .u32 (sz : Int), (.slice pp ps.length pc), (.slice sp ss.length sc), vv, .int .i64 0, .int .u32 0, (.slice none 0 0)] vv xs.length (initRows xs) SL wr ∧ ManyAt (S7.run (manyR (initR l) n3)) (initR l) n3 xs SL ∧ ∀ s ∈ xs, N32 s.at_ ∧ N32 s.addr ∧ (0 ≤ s.perm ∧ s.perm < 65536)) (fun i _ => n3 - (intOf i).toNat)
          case atStart => exact ⟨[], S7, _, Nat.zero_le _, rfl, P.out, ManyAt.start, fun s hs => nomatch hs⟩
          case round =>
            obtain ⟨xs, SL, vv, hos, rfl, hP, hM, hO⟩ := hrel
            clear P
            have P := Lib.hid hP
            have MA := Lib.hid hM
            have OS := Lib.hid hO
            clear hP hM hO
            by_cases hlt : xs.length < n3
            · have hd : decide ((xs.length : Int) < (n3 : Int)) = true := decide_eq_true (by omega)
              have hd2 : (xs.length : Int) < (n3 : Int) := by omega
              have NB := Lib.hid (show xs.length + 1 ≤ 512 by have := Hn3.out; omega)
              have HLT := Lib.hid hlt
              have wq : IntKind.i64.wrap ((xs.length : Int) + 1) = (xs.length : Int) + 1 := by have := NB.out; rw [IntKind.wrap_i64]; omega
              clear hlt
              go_wp2_with fail
              refine Rel.regionP (KeepBut (fun z => z = r ∨ z = x ∨ WC_.heap.size ≤ z)) (butWay _) [] [0, 2] 6 (by kernel_rfl) (by kernel_rfl) (Keep.refl _) ?_
              repeat (apply Rel.pre_step (by rfl) (by rfl) (by rfl)
                      · intro W' hW'
                        go_simp
                        exact ⟨rfl, Keep.refl _⟩
                      go_simp)
              apply Rel.pre_end
              refine Rel.every_two 1 3 (by kernel_rfl) (by rfl) (by rfl) (by rfl) (by rfl) ?_ ?_
              · intro W1 h1
                have PP := Lib.hid (P.out.keep' h1)
                skip
                skip
                have BX : Box W1 x #[.int .u32 (sz : Int), (.slice pp ps.length pc), (.slice sp ss.length sc), vv, .int .i64 0, .int .u32 0, (.slice none 0 0)] := PP.out.box
                have cx := BX.cells
                go_simp
                apply Rel.gives_value
                refine ⟨KeepBut.refl _ _, ?_⟩
                clear h1 cx BX P
                have P := PP
                clear PP
                go_simp
                apply Rel.every_one 3 (by kernel_rfl) (by rfl) (by rfl)
                intro W2 h2
                have P2 := Lib.hid (P.out.keep' h2)
                skip
                go_simp
                apply Rel.gives_enter
                go_at_call 50
                refine (iinitR_any w r _ l HX.out SL W2 P2.out.rd (KWC.out.butNew P2.out.but (fun y hy => by have h2 : y = r ∨ y = x := hy; have := NN.out; omega))).mono ?_
                rintro e w8 ⟨v, s, S', rfl, ⟨rfl, hsn⟩, hst, hgot, hk⟩
                refine ⟨_, rfl, hk.mono (fun _ _ h => .inl h), ?_⟩
                have PP := Lib.hid (P2.out.read hk hst)
                have GG := Lib.hid (show Got (SL.run (initR l)) s S' from hgot)
                have HSN := Lib.hid hsn
                skip
                clear hk hst hgot h2 P2 P hsn
                have P := PP
                clear PP
                skip
                go_simp
                apply Rel.every_one 4 (by kernel_rfl) (by rfl) (by rfl)
                intro W4 h4
                go_simp
                apply Rel.gives_value
                refine ⟨((Keep.refl _).alloc _).but _, ?_⟩
                have PP := Lib.hid (P.out.keep' (h4.alloc (.cells #[.int .i64 s.comp, .int .u32 s.at_, .int .i64 s.kind, .bool s.data, .int .i64 s.src, .int .u32 s.addr, .int .u16 s.perm] 43)))
                skip
                have BB := Lib.hid (Box.new W4 #[.int .i64 s.comp, .int .u32 s.at_, .int .i64 s.kind, .bool s.data, .int .i64 s.src, .int .u32 s.addr, .int .u16 s.perm] 43)
                obtain ⟨gb, hgb⟩ : ∃ gb, gb = W4.heap.size := ⟨_, rfl⟩
                rw [← hgb] at BB ⊢
                obtain ⟨WB, hWB⟩ : ∃ WB, WB = W4.alloc (.cells #[.int .i64 s.comp, .int .u32 s.at_, .int .i64 s.kind, .bool s.data, .int .i64 s.src, .int .u32 s.addr, .int .u16 s.perm] 43) := ⟨_, rfl⟩
                rw [← hWB] at PP BB  ⊢
                clear hWB hgb h4 P
                have P := PP
                clear PP
                go_simp
                apply Rel.every_one 5 (by kernel_rfl) (by rfl) (by rfl)
                intro W6 h6
                have P6 := Lib.hid (P.out.keep' h6)
                skip
                have B6 := BB.out.keep h6
                refine gives_append_src W6 (.tmp 43) (.tmp 46) 25 25 rfl WC_.heap.size 43 i3 _ 7 48 Tryd.underlying25 hi3 hy30 hy31 hy32 rfl _ _ _ rfl P6.out.row (.slice (some ⟨gb, 0, none⟩) 1 1) 1 (initRow s) rfl (Src.ofSlice W6 Tryd.underlying25 _ 1 1 _ rfl (fun j u hj => by rw [show (⟨gb, 0, none⟩ : Addr).add j = ⟨gb, j, none⟩ by unfold Addr.add; split <;> simp_all]; rw [B6.cells]; simpa [initRow] using hj) (fun u hu => by simp [initRow] at hu; rcases hu with rfl | rfl | rfl | rfl | rfl | rfl | rfl <;> rfl)) (by have := NB.out; unfold maxLen; omega) (by have := NB.out; omega) P6.out.but.size ?_
                intro v7 V7 o7 g7 b7
                refine ⟨grown_but g7 _ (fun g hg => .inr (.inr (P6.out.low g hg).1)), ?_⟩
                have PP := Lib.hid (P6.out.push o7 g7 (P6.out.rd.grown g7 (own_no3 P6.out.row (fun c => by show c * 7 ≠ 3; omega))))
                skip
                have NV := Lib.hid (show xs.length + 1 ≤ maxLen by have := NB.out; unfold maxLen; omega)
                obtain ⟨pv, cv, hv7, _, _, _⟩ := owns_cells o7 NV.out
                obtain ⟨nv, hnv⟩ : ∃ nv, nv = xs.length + 1 := ⟨_, rfl⟩
                rw [← hnv] at hv7
                clear hnv
                subst hv7
                clear o7 g7 b7 h6 B6 P6 P BB
                have P := PP
                clear PP
                go_simp
                apply Rel.every_one 6 (by kernel_rfl) (by rfl) (by rfl)
                intro W8 h8
                go_simp
                apply Rel.gives_value
                refine ⟨KeepBut.refl _ _, ?_⟩
                have PP := Lib.hid (P.out.keep' h8)
                skip
                clear h8 P
                have P := PP
                clear PP
                go_simp
                apply Rel.every_one 7 (by kernel_rfl) (by rfl) (by rfl)
                intro W9 h9
                have P9 := Lib.hid (P.out.keep' h9)
                skip
                have BX : Box W9 x #[.int .u32 (sz : Int), (.slice pp ps.length pc), (.slice sp ss.length sc), vv, .int .i64 0, .int .u32 0, (.slice none 0 0)] := P9.out.box
                have cx := BX.cells
                have fx := BX.thawed
                go_simp
                apply Rel.gives_skip
                refine ⟨KeepBut.setAt (S := fun z => z = r ∨ z = x ∨ WC_.heap.size ≤ z) (.inl (.inr (.inl rfl))) (KeepBut.refl _ _) _, ?_⟩
                skip
                have PP := Lib.hid (P9.out.store 3 (.slice pv nv cv) (C' := #[.int .u32 (sz : Int), (.slice pp ps.length pc), (.slice sp ss.length sc), (.slice pv nv cv), .int .i64 0, .int .u32 0, (.slice none 0 0)]) rfl)
                clear h9 cx fx BX P9 P
                have P := PP
                clear PP
                go_simp
                refine Rel.every_end (by kernel_rfl) ?_
                intro WA hA
                have PP := Lib.hid (P.out.keep' hA)
                skip
                clear hA P
                have P := PP
                clear PP
                go_wp2_with fail
                go_roundw
                case rel => exact ⟨xs ++ [s], S', .slice pv nv cv, by have := HLT.out; simp; omega, by simp, by rw [show initRows (xs ++ [s]) = initRows xs ++ initRow s by simp [initRows], List.length_append]; exact P.out, MA.out.more HLT.out GG.out, fun s2 hs2 => by
                  rcases List.mem_append.1 hs2 with h | h
                  · exact OS.out s2 h
                  · rw [List.mem_singleton] at h; subst h; exact HSN.out⟩
                case measure => have := HLT.out; simp [intOf]; omega
              · intro W2 h2
                have P2 := Lib.hid (P.out.keep' h2)
                skip
                go_simp
                apply Rel.gives_enter
                go_at_call 50
                refine (iinitR_any w r _ l HX.out SL W2 P2.out.rd (KWC.out.butNew P2.out.but (fun y hy => by have h2 : y = r ∨ y = x := hy; have := NN.out; omega))).mono ?_
                rintro e w8 ⟨v, s, S', rfl, ⟨rfl, hsn⟩, hst, hgot, hk⟩
                refine ⟨_, rfl, hk.mono (fun _ _ h => .inl h), ?_⟩
                have PP := Lib.hid (P2.out.read hk hst)
                have GG := Lib.hid (show Got (SL.run (initR l)) s S' from hgot)
                have HSN := Lib.hid hsn
                skip
                clear hk hst hgot h2 P2 P hsn
                have P := PP
                clear PP
                skip
                go_simp
                refine Rel.every_two 1 4 (by kernel_rfl) (by rfl) (by rfl) (by rfl) (by rfl) ?_ ?_
                · intro W1 h1
                  have PP := Lib.hid (P.out.keep' h1)
                  skip
                  skip
                  have BX : Box W1 x #[.int .u32 (sz : Int), (.slice pp ps.length pc), (.slice sp ss.length sc), vv, .int .i64 0, .int .u32 0, (.slice none 0 0)] := PP.out.box
                  have cx := BX.cells
                  go_simp
                  apply Rel.gives_value
                  refine ⟨KeepBut.refl _ _, ?_⟩
                  clear h1 cx BX P
                  have P := PP
                  clear PP
                  go_simp
                  apply Rel.every_one 4 (by kernel_rfl) (by rfl) (by rfl)
                  intro W4 h4
                  go_simp
                  apply Rel.gives_value
                  refine ⟨((Keep.refl _).alloc _).but _, ?_⟩
                  have PP := Lib.hid (P.out.keep' (h4.alloc (.cells #[.int .i64 s.comp, .int .u32 s.at_, .int .i64 s.kind, .bool s.data, .int .i64 s.src, .int .u32 s.addr, .int .u16 s.perm] 43)))
                  skip
                  have BB := Lib.hid (Box.new W4 #[.int .i64 s.comp, .int .u32 s.at_, .int .i64 s.kind, .bool s.data, .int .i64 s.src, .int .u32 s.addr, .int .u16 s.perm] 43)
                  obtain ⟨gb, hgb⟩ : ∃ gb, gb = W4.heap.size := ⟨_, rfl⟩
                  rw [← hgb] at BB ⊢
                  obtain ⟨WB, hWB⟩ : ∃ WB, WB = W4.alloc (.cells #[.int .i64 s.comp, .int .u32 s.at_, .int .i64 s.kind, .bool s.data, .int .i64 s.src, .int .u32 s.addr, .int .u16 s.perm] 43) := ⟨_, rfl⟩
                  rw [← hWB] at PP BB  ⊢
                  clear hWB hgb h4 P
                  have P := PP
                  clear PP
                  go_simp
                  apply Rel.every_one 5 (by kernel_rfl) (by rfl) (by rfl)
                  intro W6 h6
                  have P6 := Lib.hid (P.out.keep' h6)
                  skip
                  have B6 := BB.out.keep h6
                  refine gives_append_src W6 (.tmp 43) (.tmp 46) 25 25 rfl WC_.heap.size 43 i3 _ 7 48 Tryd.underlying25 hi3 hy30 hy31 hy32 rfl _ _ _ rfl P6.out.row (.slice (some ⟨gb, 0, none⟩) 1 1) 1 (initRow s) rfl (Src.ofSlice W6 Tryd.underlying25 _ 1 1 _ rfl (fun j u hj => by rw [show (⟨gb, 0, none⟩ : Addr).add j = ⟨gb, j, none⟩ by unfold Addr.add; split <;> simp_all]; rw [B6.cells]; simpa [initRow] using hj) (fun u hu => by simp [initRow] at hu; rcases hu with rfl | rfl | rfl | rfl | rfl | rfl | rfl <;> rfl)) (by have := NB.out; unfold maxLen; omega) (by have := NB.out; omega) P6.out.but.size ?_
                  intro v7 V7 o7 g7 b7
                  refine ⟨grown_but g7 _ (fun g hg => .inr (.inr (P6.out.low g hg).1)), ?_⟩
                  have PP := Lib.hid (P6.out.push o7 g7 (P6.out.rd.grown g7 (own_no3 P6.out.row (fun c => by show c * 7 ≠ 3; omega))))
                  skip
                  have NV := Lib.hid (show xs.length + 1 ≤ maxLen by have := NB.out; unfold maxLen; omega)
                  obtain ⟨pv, cv, hv7, _, _, _⟩ := owns_cells o7 NV.out
                  obtain ⟨nv, hnv⟩ : ∃ nv, nv = xs.length + 1 := ⟨_, rfl⟩
                  rw [← hnv] at hv7
                  clear hnv
                  subst hv7
                  clear o7 g7 b7 h6 B6 P6 P BB
                  have P := PP
                  clear PP
                  go_simp
                  apply Rel.every_one 6 (by kernel_rfl) (by rfl) (by rfl)
                  intro W8 h8
                  go_simp
                  apply Rel.gives_value
                  refine ⟨KeepBut.refl _ _, ?_⟩
                  have PP := Lib.hid (P.out.keep' h8)
                  skip
                  clear h8 P
                  have P := PP
                  clear PP
                  go_simp
                  apply Rel.every_one 7 (by kernel_rfl) (by rfl) (by rfl)
                  intro W9 h9
                  have P9 := Lib.hid (P.out.keep' h9)
                  skip
                  have BX : Box W9 x #[.int .u32 (sz : Int), (.slice pp ps.length pc), (.slice sp ss.length sc), vv, .int .i64 0, .int .u32 0, (.slice none 0 0)] := P9.out.box
                  have cx := BX.cells
                  have fx := BX.thawed
                  go_simp
                  apply Rel.gives_skip
                  refine ⟨KeepBut.setAt (S := fun z => z = r ∨ z = x ∨ WC_.heap.size ≤ z) (.inl (.inr (.inl rfl))) (KeepBut.refl _ _) _, ?_⟩
                  skip
                  have PP := Lib.hid (P9.out.store 3 (.slice pv nv cv) (C' := #[.int .u32 (sz : Int), (.slice pp ps.length pc), (.slice sp ss.length sc), (.slice pv nv cv), .int .i64 0, .int .u32 0, (.slice none 0 0)]) rfl)
                  clear h9 cx fx BX P9 P
                  have P := PP
                  clear PP
                  go_simp
                  refine Rel.every_end (by kernel_rfl) ?_
                  intro WA hA
                  have PP := Lib.hid (P.out.keep' hA)
                  skip
                  clear hA P
                  have P := PP
                  clear PP
                  go_wp2_with fail
                  go_roundw
                  case rel => exact ⟨xs ++ [s], S', .slice pv nv cv, by have := HLT.out; simp; omega, by simp, by rw [show initRows (xs ++ [s]) = initRows xs ++ initRow s by simp [initRows], List.length_append]; exact P.out, MA.out.more HLT.out GG.out, fun s2 hs2 => by
                    rcases List.mem_append.1 hs2 with h | h
                    · exact OS.out s2 h
                    · rw [List.mem_singleton] at h; subst h; exact HSN.out⟩
                  case measure => have := HLT.out; simp [intOf]; omega
                · intro W4 h4
                  go_simp
                  apply Rel.gives_value
                  refine ⟨((Keep.refl _).alloc _).but _, ?_⟩
                  have PP := Lib.hid (P.out.keep' (h4.alloc (.cells #[.int .i64 s.comp, .int .u32 s.at_, .int .i64 s.kind, .bool s.data, .int .i64 s.src, .int .u32 s.addr, .int .u16 s.perm] 43)))
                  skip
                  have BB := Lib.hid (Box.new W4 #[.int .i64 s.comp, .int .u32 s.at_, .int .i64 s.kind, .bool s.data, .int .i64 s.src, .int .u32 s.addr, .int .u16 s.perm] 43)
                  obtain ⟨gb, hgb⟩ : ∃ gb, gb = W4.heap.size := ⟨_, rfl⟩
                  rw [← hgb] at BB ⊢
                  obtain ⟨WB, hWB⟩ : ∃ WB, WB = W4.alloc (.cells #[.int .i64 s.comp, .int .u32 s.at_, .int .i64 s.kind, .bool s.data, .int .i64 s.src, .int .u32 s.addr, .int .u16 s.perm] 43) := ⟨_, rfl⟩
                  rw [← hWB] at PP BB  ⊢
                  clear hWB hgb h4 P
                  have P := PP
                  clear PP
                  go_simp
                  apply Rel.every_one 1 (by kernel_rfl) (by rfl) (by rfl)
                  intro W1 h1
                  have PP := Lib.hid (P.out.keep' h1)
                  skip
                  have BB := Lib.hid (BB.out.keep h1)
                  have BX : Box W1 x #[.int .u32 (sz : Int), (.slice pp ps.length pc), (.slice sp ss.length sc), vv, .int .i64 0, .int .u32 0, (.slice none 0 0)] := PP.out.box
                  have cx := BX.cells
                  go_simp
                  apply Rel.gives_value
                  refine ⟨KeepBut.refl _ _, ?_⟩
                  clear h1 cx BX P
                  have P := PP
                  clear PP
                  go_simp
                  apply Rel.every_one 5 (by kernel_rfl) (by rfl) (by rfl)
                  intro W6 h6
                  have P6 := Lib.hid (P.out.keep' h6)
                  skip
                  have B6 := BB.out.keep h6
                  refine gives_append_src W6 (.tmp 43) (.tmp 46) 25 25 rfl WC_.heap.size 43 i3 _ 7 48 Tryd.underlying25 hi3 hy30 hy31 hy32 rfl _ _ _ rfl P6.out.row (.slice (some ⟨gb, 0, none⟩) 1 1) 1 (initRow s) rfl (Src.ofSlice W6 Tryd.underlying25 _ 1 1 _ rfl (fun j u hj => by rw [show (⟨gb, 0, none⟩ : Addr).add j = ⟨gb, j, none⟩ by unfold Addr.add; split <;> simp_all]; rw [B6.cells]; simpa [initRow] using hj) (fun u hu => by simp [initRow] at hu; rcases hu with rfl | rfl | rfl | rfl | rfl | rfl | rfl <;> rfl)) (by have := NB.out; unfold maxLen; omega) (by have := NB.out; omega) P6.out.but.size ?_
                  intro v7 V7 o7 g7 b7
                  refine ⟨grown_but g7 _ (fun g hg => .inr (.inr (P6.out.low g hg).1)), ?_⟩
                  have PP := Lib.hid (P6.out.push o7 g7 (P6.out.rd.grown g7 (own_no3 P6.out.row (fun c => by show c * 7 ≠ 3; omega))))
                  skip
                  have NV := Lib.hid (show xs.length + 1 ≤ maxLen by have := NB.out; unfold maxLen; omega)
                  obtain ⟨pv, cv, hv7, _, _, _⟩ := owns_cells o7 NV.out
                  obtain ⟨nv, hnv⟩ : ∃ nv, nv = xs.length + 1 := ⟨_, rfl⟩
                  rw [← hnv] at hv7
                  clear hnv
                  subst hv7
                  clear o7 g7 b7 h6 B6 P6 P BB
                  have P := PP
                  clear PP
                  go_simp
                  apply Rel.every_one 6 (by kernel_rfl) (by rfl) (by rfl)
                  intro W8 h8
                  go_simp
                  apply Rel.gives_value
                  refine ⟨KeepBut.refl _ _, ?_⟩
                  have PP := Lib.hid (P.out.keep' h8)
                  skip
                  clear h8 P
                  have P := PP
                  clear PP
                  go_simp
                  apply Rel.every_one 7 (by kernel_rfl) (by rfl) (by rfl)
                  intro W9 h9
                  have P9 := Lib.hid (P.out.keep' h9)
                  skip
                  have BX : Box W9 x #[.int .u32 (sz : Int), (.slice pp ps.length pc), (.slice sp ss.length sc), vv, .int .i64 0, .int .u32 0, (.slice none 0 0)] := P9.out.box
                  have cx := BX.cells
                  have fx := BX.thawed
                  go_simp
                  apply Rel.gives_skip
                  refine ⟨KeepBut.setAt (S := fun z => z = r ∨ z = x ∨ WC_.heap.size ≤ z) (.inl (.inr (.inl rfl))) (KeepBut.refl _ _) _, ?_⟩
                  skip
                  have PP := Lib.hid (P9.out.store 3 (.slice pv nv cv) (C' := #[.int .u32 (sz : Int), (.slice pp ps.length pc), (.slice sp ss.length sc), (.slice pv nv cv), .int .i64 0, .int .u32 0, (.slice none 0 0)]) rfl)
                  clear h9 cx fx BX P9 P
                  have P := PP
                  clear PP
                  go_simp
                  refine Rel.every_end (by kernel_rfl) ?_
                  intro WA hA
                  have PP := Lib.hid (P.out.keep' hA)
                  skip
                  clear hA P
                  have P := PP
                  clear PP
                  go_wp2_with fail
                  go_roundw
                  case rel => exact ⟨xs ++ [s], S', .slice pv nv cv, by have := HLT.out; simp; omega, by simp, by rw [show initRows (xs ++ [s]) = initRows xs ++ initRow s by simp [initRows], List.length_append]; exact P.out, MA.out.more HLT.out GG.out, fun s2 hs2 => by
                    rcases List.mem_append.1 hs2 with h | h
                    · exact OS.out s2 h
                    · rw [List.mem_singleton] at h; subst h; exact HSN.out⟩
                  case measure => have := HLT.out; simp [intOf]; omega
            · have HEQ := Lib.hid (show xs.length = n3 by omega)
              have hd : decide ((xs.length : Int) < (n3 : Int)) = false := decide_eq_false (by omega)
              have GL3 := Lib.hid (MA.out.done HEQ.out)
              have HL3 := Lib.hid (show xs.length ≤ 512 by have := Hn3.out; omega)
              have ON3 := Lib.hid OS.out
              clear HEQ hd MA OS hos
              obtain ⟨WD, rfl⟩ : ∃ W, W = wr := ⟨_, rfl⟩
              obtain ⟨S8, rfl⟩ : ∃ S, S = SL := ⟨_, rfl⟩
              obtain ⟨xp, xc, hvv, _, _, _⟩ := owns_cells P.out.row (by have := HL3.out; unfold maxLen; omega)
              subst hvv
              have PC := Lib.hid P.out
              have KWD := Lib.hid (KWC.out.butNew P.out.but (fun y hy => by have h2 : y = r ∨ y = x := hy; have := NN.out; omega))
              have RESD := Lib.hid (RESC.out.but P.out.but (by intro e; have h2 : w.heap.size = r ∨ w.heap.size = x := e; have := RWX.out; omega))
              have P0 : Hid (LpAt (⟨r, x, .slice ip l.length ic, l, WD, 5, 1⟩ : LFix) #[.int .u32 (sz : Int), (.slice pp ps.length pc), (.slice sp ss.length sc), (.slice xp xs.length xc), .int .i64 0, .int .u32 0, (.slice none 0 0)] (.slice none 0 0) 0 [] S8 WD) := Lib.hid ⟨KeepBut.refl _ _, P.out.rd, P.out.box, World.ownsRow_nil _ _ _ _, P.out.rx, Nat.lt_of_lt_of_le P.out.rlt P.out.but.size, Nat.lt_of_lt_of_le P.out.xlt P.out.but.size, by simp⟩
              clear P
              have P := Lib.hid P0.out
              clear P0
              have C9 := Lib.hid (iindex_any w r _ l HX.out S8 WD P.out.rd KWD.out)
              go_wp2_with fail
              refine C9.out.mono ?_
              rintro e w_9 ⟨v, st, S9, rfl, ⟨rfl, hst_⟩, hst, hgot, hk⟩
              have G9 := Lib.hid hgot
              have PP := Lib.hid (P.out.read hk hst)
              clear P
              have P := Lib.hid PP.out
              clear PP
              clear hst hgot hk C9 hst_
              have C10 := Lib.hid (inumber_any w r _ l HX.out S9 4 (.inr rfl) w_9 P.out.rd (KWD.out.butNew P.out.but (fun y hy => by have h2 : y = r ∨ y = x := hy; have := NN.out; omega)))
              rw [numRN_four] at C10
              go_wp2_with fail
              refine C10.out.mono ?_
              rintro e w_10 ⟨v, ad, S10, rfl, ⟨rfl, had, _⟩, hst, hgot, hk⟩
              have G10 := Lib.hid hgot
              have HAD := Lib.hid had
              have PP := Lib.hid (P.out.read hk hst)
              clear P
              have P := Lib.hid PP.out
              clear PP
              clear hst hgot hk C10 had
              have cx := P.out.box.cells
              have fx := P.out.box.thawed
              have P4 := Lib.hid ((P.out.store 4 (.int .i64 (st : Int)) (C' := #[.int .u32 (sz : Int), (.slice pp ps.length pc), (.slice sp ss.length sc), (.slice xp xs.length xc), .int .i64 (st : Int), .int .u32 0, (.slice none 0 0)]) rfl).store 5 (.int .u32 (ad : Int)) (C' := #[.int .u32 (sz : Int), (.slice pp ps.length pc), (.slice sp ss.length sc), (.slice xp xs.length xc), .int .i64 (st : Int), .int .u32 (ad : Int), (.slice none 0 0)]) rfl)
              go_wp2_with fail
              obtain ⟨W16, hW16⟩ : ∃ W, W = (w_10.setCell ⟨x, 4, none⟩ (.int .i64 (st : Int))).setCell ⟨x, 5, none⟩ (.int .u32 (ad : Int)) := ⟨_, rfl⟩
              have P5 : Hid (LpAt (⟨r, x, .slice ip l.length ic, l, WD, 5, 1⟩ : LFix) #[.int .u32 (sz : Int), (.slice pp ps.length pc), (.slice sp ss.length sc), (.slice xp xs.length xc), .int .i64 (st : Int), .int .u32 (ad : Int), (.slice none 0 0)] (.slice none 0 0) 0 [] S10 W16) := Lib.hid (by rw [hW16]; exact P4.out)
              rw [← hW16]
              clear hW16 cx fx P4 P
              have P := Lib.hid P5.out
              clear P5
              refine Rel.regionP (KeepBut (fun z => z = r ∨ z = x ∨ WD.heap.size ≤ z)) (butWay _) [] [0, 2, 3] 6 (by kernel_rfl) (by kernel_rfl) (Keep.refl _) ?_
              repeat (apply Rel.pre_step (by rfl) (by rfl) (by rfl)
                      · intro W' hW'
                        go_simp
                        exact ⟨rfl, Keep.refl _⟩
                      go_simp)
              apply Rel.pre_end
              refine Rel.every_two 1 4 (by kernel_rfl) (by rfl) (by rfl) (by rfl) (by rfl) ?_ ?_
              · intro W1 h1
                have PP := Lib.hid (P.out.keep' h1)
                have cx := PP.out.box.cells
                go_simp
                apply Rel.gives_value
                refine ⟨KeepBut.refl _ _, ?_⟩
                clear h1 cx P
                have P := Lib.hid PP.out
                clear PP
                go_simp
                apply Rel.every_one 4 (by kernel_rfl) (by rfl) (by rfl)
                intro W2 h2
                have P2 := Lib.hid (P.out.keep' h2)
                go_simp
                apply Rel.gives_enter
                go_at_call 47
                refine (icount_any w r _ l HX.out S10 65536 (by decide) W2 P2.out.rd (KWD.out.butNew P2.out.but (fun y hy => by have h2 : y = r ∨ y = x := hy; have := NN.out; omega))).mono ?_
                rintro e w8 ⟨v, n4, S11, rfl, ⟨rfl, hn4⟩, hst, hgot, hk⟩
                refine ⟨_, rfl, hk.mono (fun _ _ h => .inl h), ?_⟩
                have PP := Lib.hid (P2.out.read hk hst)
                have G11 := Lib.hid hgot
                have HN4 := Lib.hid hn4
                clear hn4
                clear hst hgot h2 P2 P hk
                have P := Lib.hid PP.out
                clear PP
                go_simp
                apply Rel.every_one 5 (by kernel_rfl) (by rfl) (by rfl)
                intro W2 h2
                have P2 := Lib.hid (P.out.keep' h2)
                go_simp
                apply Rel.gives_enter
                go_at_call 52
                refine (itake_any w r _ l HX.out S11 n4 (by have := HN4.out; omega) W2 P2.out.rd).mono ?_
                rintro e w8 ⟨v, bs, S12, rfl, ⟨hsl, hb, hlen⟩, hst, hgot, hk⟩
                refine ⟨_, rfl, hk.mono (fun _ _ h => .inl h), ?_⟩
                have PP := Lib.hid (P2.out.read hk hst)
                have G12 := Lib.hid hgot
                have K8 : Hid (Keep w w8) := Lib.hid ((KWD.out.butNew P2.out.but (fun y hy => by have h2 : y = r ∨ y = x := hy; have := NN.out; omega)).butNew hk (fun y hy => by have := NN.out; omega))
                have SR := Lib.hid (SlAt.src (P := Tryd.prog) Tryd.underlying26 (hsl.keep K8.out))
                have HB := Lib.hid hb
                have HLB := Lib.hid (show bs.length ≤ 65536 by have := HN4.out; rcases hlen with rfl | e; exact Nat.zero_le _; omega)
                have SL0 := Lib.hid hsl
                clear hsl hb hlen K8
                clear hst hgot h2 P2 P hk
                have P := Lib.hid PP.out
                clear PP
                go_simp
                apply Rel.every_one 6 (by kernel_rfl) (by rfl) (by rfl)
                intro W6 h6
                have P6 := Lib.hid (P.out.keep' h6)
                have S6 := Lib.hid (SlAt.src (P := Tryd.prog) Tryd.underlying26 (SL0.out.keep (KWD.out.butNew P6.out.but (fun y hy => by have h2 : y = r ∨ y = x := hy; have := NN.out; omega))))
                refine gives_append_src W6 (.tmp 57) (.tmp 61) 26 26 rfl WD.heap.size 5 i0 _ 1 1 Tryd.underlying26 hi0 hz0 hz1 hz2 rfl _ _ _ rfl P6.out.row _ bs.length (bs.map byteV) rfl S6.out (by have := HLB.out; unfold maxLen; omega) (by have := HLB.out; omega) P6.out.but.size ?_
                intro v7 V7 o7 g7 b7
                refine ⟨grown_but g7 _ (fun g hg => nomatch hg), ?_⟩
                have PP := Lib.hid (P6.out.push o7 g7 (P6.out.rd.grown g7 (fun _ _ _ _ e => nomatch e)))
                have NV := Lib.hid (show 0 + bs.length ≤ maxLen by have := HLB.out; unfold maxLen; omega)
                obtain ⟨pv, cv, hv7, _, _, _⟩ := owns_cells o7 NV.out
                obtain ⟨nv, hnv⟩ : ∃ nv, nv = 0 + bs.length := ⟨_, rfl⟩
                rw [← hnv] at hv7
                clear hnv
                subst hv7
                clear o7 g7 b7 h6 P6 P S6
                have P := Lib.hid PP.out
                clear PP
                go_simp
                apply Rel.every_one 7 (by kernel_rfl) (by rfl) (by rfl)
                intro W8 h8
                go_simp
                apply Rel.gives_value
                refine ⟨KeepBut.refl _ _, ?_⟩
                have PP := Lib.hid (P.out.keep' h8)
                clear h8 P
                have P := Lib.hid PP.out
                clear PP
                go_simp
                apply Rel.every_one 8 (by kernel_rfl) (by rfl) (by rfl)
                intro W9 h9
                have P9 := Lib.hid (P.out.keep' h9)
                have cx := P9.out.box.cells
                have fx := P9.out.box.thawed
                go_simp
                apply Rel.gives_skip
                refine ⟨KeepBut.setAt (S := fun z => z = r ∨ z = x ∨ WD.heap.size ≤ z) (.inl (.inr (.inl rfl))) (KeepBut.refl _ _) _, ?_⟩
                have PP := Lib.hid (P9.out.store 6 (.slice pv nv cv) (C' := #[.int .u32 (sz : Int), (.slice pp ps.length pc), (.slice sp ss.length sc), (.slice xp xs.length xc), .int .i64 (st : Int), .int .u32 (ad : Int), (.slice pv nv cv)]) rfl)
                clear h9 cx fx P9 P
                have P := Lib.hid PP.out
                clear PP
                go_simp
                refine Rel.every_end (by kernel_rfl) ?_
                intro WE hE
                have PP := Lib.hid (P.out.keep' hE)
                clear hE P
                have P := Lib.hid PP.out
                clear PP
                go_wp2_with fail
                refine (iend_rd w r _ l HX.out S12 WE P.out.rd).mono ?_
                rintro e w13 ⟨S13, rfl, hst, hgot, hk⟩
                have G13 := Lib.hid hgot
                have P13 := Lib.hid (P.out.read hk hst)
                clear hst hgot hk P
                have GR := Lib.hid (readI_got G1.out G2.out G3.out GL1.out G5.out GL2.out G7.out GL3.out G9.out G10.out G11.out G12.out G13.out)
                have LE := Lib.hid (show w.heap.size < WA.heap.size ∧ WA.heap.size ≤ WB_.heap.size ∧ WB_.heap.size ≤ WC_.heap.size ∧ WC_.heap.size ≤ WD.heap.size from ⟨by have := NN.out; have := XLT.out; omega, PA.out.but.size, PB.out.but.size, PC.out.but.size⟩)
                have OBJ : Hid (∀ W, KeepBut (fun z => z ≤ w.heap.size) w13 W → ImgAt W ⟨(sz : Int), ps, ss, xs, (st : Int), (ad : Int), bs⟩ (.slice pp ps.length pc) (.slice sp ss.length sc) (.slice xp xs.length xc) (.slice pv nv cv) (ves)) := Lib.hid (fun W k => by
                  have le := LE.out
                  have nn := NN.out
                  have xl := XLT.out
                  have rwx := RWX.out
                  have kD : KeepBut (fun z => z < WA.heap.size) WD W := (P13.out.but.mono (fun z _ e => by have h2 : z = r ∨ z = x := e; show z < WA.heap.size; omega)).trans (k.mono (fun z _ e => by show z < WA.heap.size; have h2 : z ≤ w.heap.size := e; omega))
                  have kC : KeepBut (fun z => z < WA.heap.size) WC_ W := (PC.out.but.mono (fun z _ e => by have h2 : z = r ∨ z = x := e; show z < WA.heap.size; omega)).trans kD
                  have kB : KeepBut (fun z => z < WA.heap.size) WB_ W := (PB.out.but.mono (fun z _ e => by have h2 : z = r ∨ z = x := e; show z < WA.heap.size; omega)).trans kC
                  refine ⟨own_slAt (owns_but PA.out.row kB (fun g hg => by have h2 : WA.heap.size ≤ g := (PA.out.low g hg).1; show ¬ g < WA.heap.size; omega)) (show ps.length ≤ maxLen by have := HL1.out; unfold maxLen; omega), PEA.out.len, fun j p v hp hv => ?_, own_slAt (owns_but PB.out.row kC (fun g hg => by have h2 : WB_.heap.size ≤ g := (PB.out.low g hg).1; show ¬ g < WA.heap.size; omega)) (show ss.length ≤ maxLen by have := HL2.out; unfold maxLen; omega), own_slAt (owns_but PC.out.row kD (fun g hg => by have h2 : WC_.heap.size ≤ g := (PC.out.low g hg).1; show ¬ g < WA.heap.size; omega)) (show xs.length ≤ maxLen by have := HL3.out; unfold maxLen; omega), ?_⟩
                  · have o := (PEA.out.row j p v hp hv).1
                    refine own_slAt (owns_but o kB (fun g hg => by have := (World.ownsRow.lt o g hg).1; show ¬ g < WA.heap.size; omega)) ?_
                    have := (ON1.out p (List.mem_of_getElem? hp)).few
                    unfold maxLen; omega
                  · have o := owns_but P13.out.row k (fun g hg => by have h2 : WD.heap.size ≤ g := (P13.out.low g hg).1; show ¬ g ≤ w.heap.size; omega)
                    have o2 := own_slAt o (by have := HLB.out; unfold maxLen; omega)
                    simpa using o2)
                have NUM : Hid (ImgNum ⟨(sz : Int), ps, ss, xs, (st : Int), (ad : Int), bs⟩) := Lib.hid (by
                  refine ⟨⟨Int.natCast_nonneg _, by have := HSZ.out; show (sz : Int) < _; omega⟩, fun s hs => ?_, fun p hp => (ON1.out p hp).ents, fun y hy => (ON3.out y hy).1, fun y hy => (ON3.out y hy).2.1, fun y hy => (ON3.out y hy).2.2, ⟨Int.natCast_nonneg _, by have := HAD.out; show (ad : Int) < _; omega⟩, HB.out⟩
                  unfold spansI at hs
                  simp only [List.mem_append, List.mem_flatMap, List.mem_cons, List.not_mem_nil, or_false] at hs
                  rcases hs with ⟨p, hp, rfl | rfl | rfl⟩ | hs
                  · exact (ON1.out p hp).code
                  · exact (ON1.out p hp).data
                  · exact (ON1.out p hp).stack
                  · exact ON2.out s hs)
                have MID : Hid (ImgMid ⟨(sz : Int), ps, ss, xs, (st : Int), (ad : Int), bs⟩) := Lib.hid ⟨by have := HL1.out; show ps.length ≤ 1000; omega, by have := HL2.out; show ss.length ≤ 1000; omega, by have := HL3.out; show xs.length ≤ 1000; omega, by have := HLB.out; show bs.length ≤ 100000; omega, fun p hp => by have := (ON1.out p hp).name; omega, fun p hp => by have := (ON1.out p hp).few; omega⟩
                have KW13 : Hid (Keep w w13) := Lib.hid (KWD.out.butNew P13.out.but (fun y hy => by have h2 : y = r ∨ y = x := hy; have := NN.out; omega))
                have RES : Hid (Box w13 w.heap.size #[.int .u32 0, .slice none 0 0, .slice none 0 0, .slice none 0 0, .int .i64 0, .int .u32 0, .slice none 0 0]) := Lib.hid (RESD.out.but P13.out.but (by intro e; have h2 : w.heap.size = r ∨ w.heap.size = x := e; have := RWX.out; omega))
                have BX : Hid (Box w13 x #[.int .u32 (sz : Int), (.slice pp ps.length pc), (.slice sp ss.length sc), (.slice xp xs.length xc), .int .i64 (st : Int), .int .u32 (ad : Int), (.slice pv nv cv)]) := Lib.hid P13.out.box
                have NX := Lib.hid (show ¬ x = w.heap.size by have := RWX.out; omega)
                have NRr := Lib.hid (show ¬ r = w.heap.size by have := RWX.out; omega)
                have RDD : Hid (RdSt w13 r (.slice ip l.length ic) l S13) := Lib.hid P13.out.rd
                obtain ⟨qq, u, hRB, huu⟩ : ∃ (qq : Nat) (u : Value), Box w13 r #[(.slice ip l.length ic), .int .i64 (qq : Int), u] ∧ (∀ W, KeepBut (fun z => z = w.heap.size) w13 W → match readI l with
                    | .ok (y, _) => (⟨(sz : Int), ps, ss, xs, (st : Int), (ad : Int), bs⟩ : ImgV) = y ∧ u = .nilIface
                    | .error (a, c) => c ≠ 0 ∧ OErr W u (byteT, a, c)) := by
                  have gr := GR.out
                  have rd := RDD.out
                  have res := RES.out
                  cases S13 with
                  | ok p11 =>
                    refine ⟨p11, .nilIface, rd.2, fun W _ => ?_⟩
                    cases hX : readI l with
                    | error e => rw [hX] at gr; cases gr
                    | ok y => obtain ⟨y, q⟩ := y; rw [hX] at gr; exact ⟨gr.1, rfl⟩
                  | error e11 =>
                    obtain ⟨a, c⟩ := e11
                    obtain ⟨q, p11, h1, h2, h3, h4, h5⟩ := rd
                    refine ⟨p11, faultP q, h4, fun W k => ?_⟩
                    cases hX : readI l with
                    | ok y => obtain ⟨y, q⟩ := y; rw [hX] at gr; cases gr.2
                    | error e =>
                      rw [hX] at gr
                      cases gr
                      refine ⟨h3, .inr ⟨q, byteT, a, c, h3, rfl, rfl, ?_⟩⟩
                      refine h5.but k (fun e => ?_)
                      subst e
                      obtain ⟨t1, e1⟩ := res
                      obtain ⟨t2, e2⟩ := h5
                      rw [e1] at e2
                      cases e2
                have RB := Lib.hid hRB
                have UU := Lib.hid huu
                clear hRB huu
                clear P13 GR
                go_wp2_with fail
                refine Rel.regionO (KeepBut (fun z => z = w.heap.size)) (butWay _) [5] [0, 1, 2, 3, 4, 5, 6] (by kernel_rfl) (by kernel_rfl) (Keep.refl _) ?_
                repeat (apply Rel.ordK_step (by rfl) (by rfl) (by rfl)
                        · intro W' hW'
                          have cx := (BX.out.but hW' NX.out).cells
                          have cr_ := (RB.out.but hW' NRr.out).cells
                          go_simp
                          exact ⟨rfl, Keep.refl _⟩
                        go_simp)
                apply Rel.ordK_loose (by rfl) (by rfl) (by rfl)
                intro Wb hWb
                have Bb := RES.out.keep hWb
                have fb := Bb.thawed
                have cb := Bb.cells
                go_simp
                apply Rel.gives_skip
                obtain ⟨W4, hW4⟩ : ∃ W4, W4 = (((((((Wb.setCell ⟨w.heap.size, 0, none⟩ (.int .u32 (sz : Int))).setCell ⟨w.heap.size, 1, none⟩ ((.slice pp ps.length pc))).setCell ⟨w.heap.size, 2, none⟩ ((.slice sp ss.length sc))).setCell ⟨w.heap.size, 3, none⟩ ((.slice xp xs.length xc))).setCell ⟨w.heap.size, 4, none⟩ (.int .i64 (st : Int))).setCell ⟨w.heap.size, 5, none⟩ (.int .u32 (ad : Int))).setCell ⟨w.heap.size, 6, none⟩ ((.slice pv nv cv))) := ⟨_, rfl⟩
                rw [← hW4]
                have B4 : Box W4 w.heap.size #[.int .u32 (sz : Int), (.slice pp ps.length pc), (.slice sp ss.length sc), (.slice xp xs.length xc), .int .i64 (st : Int), .int .u32 (ad : Int), (.slice pv nv cv)] := by
                  rw [hW4]; simpa using (((((((Bb.set 0 (.int .u32 (sz : Int))).set 1 ((.slice pp ps.length pc))).set 2 ((.slice sp ss.length sc))).set 3 ((.slice xp xs.length xc))).set 4 (.int .i64 (st : Int))).set 5 (.int .u32 (ad : Int))).set 6 ((.slice pv nv cv)))
                have K34 : KeepBut (fun z => z = w.heap.size) Wb W4 := by
                  rw [hW4]
                  repeat (with_reducible refine KeepBut.setAt ?_ ?_ _; · exact .inl rfl)
                  exact KeepBut.refl _ _
                have K4 := Lib.hid ((hWb.but (fun z => z = w.heap.size)).trans K34)
                refine ⟨K34, ?_⟩
                clear hW4 K34 Bb fb cb hWb
                go_simp
                apply Rel.ordK_step (by rfl) (by rfl) (by rfl)
                · intro W' hW'
                  go_simp
                  exact ⟨rfl, Keep.refl _⟩
                go_simp
                apply Rel.ordK_end
                intro W5 hW5
                have K5 := Lib.hid (K4.out.trans (hW5.but _))
                have r0 := (B4.keep hW5).cells
                have rf := (B4.keep hW5).thawed
                clear hW5 B4 K4
                go_wp2_with fail
                refine bodyPost_ret (v := .tuple #[.agg #[.int .u32 (sz : Int), (.slice pp ps.length pc), (.slice sp ss.length sc), (.slice xp xs.length xc), .int .i64 (st : Int), .int .u32 (ad : Int), (.slice pv nv cv)], u]) (by simp [results, Tryd.results24, go_sem, r0]; done) rfl ?_
                exact ⟨⟨(sz : Int), ps, ss, xs, (st : Int), (ad : Int), bs⟩, _, _, _, _, ves, u, rfl, KW13.out.butNew K5.out (fun y hy => by omega), fun W k => OBJ.out W ((K5.out.mono (fun z _ e => by have h2 : z = w.heap.size := e; show z ≤ w.heap.size; omega)).trans (k.mono (fun z _ e => by have h2 : z < w.heap.size := e; show z ≤ w.heap.size; omega))), NUM.out, MID.out, UU.out _ K5.out⟩
              · intro W2 h2
                have P2 := Lib.hid (P.out.keep' h2)
                go_simp
                apply Rel.gives_enter
                go_at_call 47
                refine (icount_any w r _ l HX.out S10 65536 (by decide) W2 P2.out.rd (KWD.out.butNew P2.out.but (fun y hy => by have h2 : y = r ∨ y = x := hy; have := NN.out; omega))).mono ?_
                rintro e w8 ⟨v, n4, S11, rfl, ⟨rfl, hn4⟩, hst, hgot, hk⟩
                refine ⟨_, rfl, hk.mono (fun _ _ h => .inl h), ?_⟩
                have PP := Lib.hid (P2.out.read hk hst)
                have G11 := Lib.hid hgot
                have HN4 := Lib.hid hn4
                clear hn4
                clear hst hgot h2 P2 P hk
                have P := Lib.hid PP.out
                clear PP
                go_simp
                refine Rel.every_two 1 5 (by kernel_rfl) (by rfl) (by rfl) (by rfl) (by rfl) ?_ ?_
                · intro W1 h1
                  have PP := Lib.hid (P.out.keep' h1)
                  have cx := PP.out.box.cells
                  go_simp
                  apply Rel.gives_value
                  refine ⟨KeepBut.refl _ _, ?_⟩
                  clear h1 cx P
                  have P := Lib.hid PP.out
                  clear PP
                  go_simp
                  apply Rel.every_one 5 (by kernel_rfl) (by rfl) (by rfl)
                  intro W2 h2
                  have P2 := Lib.hid (P.out.keep' h2)
                  go_simp
                  apply Rel.gives_enter
                  go_at_call 52
                  refine (itake_any w r _ l HX.out S11 n4 (by have := HN4.out; omega) W2 P2.out.rd).mono ?_
                  rintro e w8 ⟨v, bs, S12, rfl, ⟨hsl, hb, hlen⟩, hst, hgot, hk⟩
                  refine ⟨_, rfl, hk.mono (fun _ _ h => .inl h), ?_⟩
                  have PP := Lib.hid (P2.out.read hk hst)
                  have G12 := Lib.hid hgot
                  have K8 : Hid (Keep w w8) := Lib.hid ((KWD.out.butNew P2.out.but (fun y hy => by have h2 : y = r ∨ y = x := hy; have := NN.out; omega)).butNew hk (fun y hy => by have := NN.out; omega))
                  have SR := Lib.hid (SlAt.src (P := Tryd.prog) Tryd.underlying26 (hsl.keep K8.out))
                  have HB := Lib.hid hb
                  have HLB := Lib.hid (show bs.length ≤ 65536 by have := HN4.out; rcases hlen with rfl | e; exact Nat.zero_le _; omega)
                  have SL0 := Lib.hid hsl
                  clear hsl hb hlen K8
                  clear hst hgot h2 P2 P hk
                  have P := Lib.hid PP.out
                  clear PP
                  go_simp
                  apply Rel.every_one 6 (by kernel_rfl) (by rfl) (by rfl)
                  intro W6 h6
                  have P6 := Lib.hid (P.out.keep' h6)
                  have S6 := Lib.hid (SlAt.src (P := Tryd.prog) Tryd.underlying26 (SL0.out.keep (KWD.out.butNew P6.out.but (fun y hy => by have h2 : y = r ∨ y = x := hy; have := NN.out; omega))))
                  refine gives_append_src W6 (.tmp 57) (.tmp 61) 26 26 rfl WD.heap.size 5 i0 _ 1 1 Tryd.underlying26 hi0 hz0 hz1 hz2 rfl _ _ _ rfl P6.out.row _ bs.length (bs.map byteV) rfl S6.out (by have := HLB.out; unfold maxLen; omega) (by have := HLB.out; omega) P6.out.but.size ?_
                  intro v7 V7 o7 g7 b7
                  refine ⟨grown_but g7 _ (fun g hg => nomatch hg), ?_⟩
                  have PP := Lib.hid (P6.out.push o7 g7 (P6.out.rd.grown g7 (fun _ _ _ _ e => nomatch e)))
                  have NV := Lib.hid (show 0 + bs.length ≤ maxLen by have := HLB.out; unfold maxLen; omega)
                  obtain ⟨pv, cv, hv7, _, _, _⟩ := owns_cells o7 NV.out
                  obtain ⟨nv, hnv⟩ : ∃ nv, nv = 0 + bs.length := ⟨_, rfl⟩
                  rw [← hnv] at hv7
                  clear hnv
                  subst hv7
                  clear o7 g7 b7 h6 P6 P S6
                  have P := Lib.hid PP.out
                  clear PP
                  go_simp
                  apply Rel.every_one 7 (by kernel_rfl) (by rfl) (by rfl)
                  intro W8 h8
                  go_simp
                  apply Rel.gives_value
                  refine ⟨KeepBut.refl _ _, ?_⟩
                  have PP := Lib.hid (P.out.keep' h8)
                  clear h8 P
                  have P := Lib.hid PP.out
                  clear PP
                  go_simp
                  apply Rel.every_one 8 (by kernel_rfl) (by rfl) (by rfl)
                  intro W9 h9
                  have P9 := Lib.hid (P.out.keep' h9)
                  have cx := P9.out.box.cells
                  have fx := P9.out.box.thawed
                  go_simp
                  apply Rel.gives_skip
                  refine ⟨KeepBut.setAt (S := fun z => z = r ∨ z = x ∨ WD.heap.size ≤ z) (.inl (.inr (.inl rfl))) (KeepBut.refl _ _) _, ?_⟩
                  have PP := Lib.hid (P9.out.store 6 (.slice pv nv cv) (C' := #[.int .u32 (sz : Int), (.slice pp ps.length pc), (.slice sp ss.length sc), (.slice xp xs.length xc), .int .i64 (st : Int), .int .u32 (ad : Int), (.slice pv nv cv)]) rfl)
                  clear h9 cx fx P9 P
                  have P := Lib.hid PP.out
                  clear PP
                  go_simp
                  refine Rel.every_end (by kernel_rfl) ?_
                  intro WE hE
                  have PP := Lib.hid (P.out.keep' hE)
                  clear hE P
                  have P := Lib.hid PP.out
                  clear PP
                  go_wp2_with fail
                  refine (iend_rd w r _ l HX.out S12 WE P.out.rd).mono ?_
                  rintro e w13 ⟨S13, rfl, hst, hgot, hk⟩
                  have G13 := Lib.hid hgot
                  have P13 := Lib.hid (P.out.read hk hst)
                  clear hst hgot hk P
                  have GR := Lib.hid (readI_got G1.out G2.out G3.out GL1.out G5.out GL2.out G7.out GL3.out G9.out G10.out G11.out G12.out G13.out)
                  have LE := Lib.hid (show w.heap.size < WA.heap.size ∧ WA.heap.size ≤ WB_.heap.size ∧ WB_.heap.size ≤ WC_.heap.size ∧ WC_.heap.size ≤ WD.heap.size from ⟨by have := NN.out; have := XLT.out; omega, PA.out.but.size, PB.out.but.size, PC.out.but.size⟩)
                  have OBJ : Hid (∀ W, KeepBut (fun z => z ≤ w.heap.size) w13 W → ImgAt W ⟨(sz : Int), ps, ss, xs, (st : Int), (ad : Int), bs⟩ (.slice pp ps.length pc) (.slice sp ss.length sc) (.slice xp xs.length xc) (.slice pv nv cv) (ves)) := Lib.hid (fun W k => by
                    have le := LE.out
                    have nn := NN.out
                    have xl := XLT.out
                    have rwx := RWX.out
                    have kD : KeepBut (fun z => z < WA.heap.size) WD W := (P13.out.but.mono (fun z _ e => by have h2 : z = r ∨ z = x := e; show z < WA.heap.size; omega)).trans (k.mono (fun z _ e => by show z < WA.heap.size; have h2 : z ≤ w.heap.size := e; omega))
                    have kC : KeepBut (fun z => z < WA.heap.size) WC_ W := (PC.out.but.mono (fun z _ e => by have h2 : z = r ∨ z = x := e; show z < WA.heap.size; omega)).trans kD
                    have kB : KeepBut (fun z => z < WA.heap.size) WB_ W := (PB.out.but.mono (fun z _ e => by have h2 : z = r ∨ z = x := e; show z < WA.heap.size; omega)).trans kC
                    refine ⟨own_slAt (owns_but PA.out.row kB (fun g hg => by have h2 : WA.heap.size ≤ g := (PA.out.low g hg).1; show ¬ g < WA.heap.size; omega)) (show ps.length ≤ maxLen by have := HL1.out; unfold maxLen; omega), PEA.out.len, fun j p v hp hv => ?_, own_slAt (owns_but PB.out.row kC (fun g hg => by have h2 : WB_.heap.size ≤ g := (PB.out.low g hg).1; show ¬ g < WA.heap.size; omega)) (show ss.length ≤ maxLen by have := HL2.out; unfold maxLen; omega), own_slAt (owns_but PC.out.row kD (fun g hg => by have h2 : WC_.heap.size ≤ g := (PC.out.low g hg).1; show ¬ g < WA.heap.size; omega)) (show xs.length ≤ maxLen by have := HL3.out; unfold maxLen; omega), ?_⟩
                    · have o := (PEA.out.row j p v hp hv).1
                      refine own_slAt (owns_but o kB (fun g hg => by have := (World.ownsRow.lt o g hg).1; show ¬ g < WA.heap.size; omega)) ?_
                      have := (ON1.out p (List.mem_of_getElem? hp)).few
                      unfold maxLen; omega
                    · have o := owns_but P13.out.row k (fun g hg => by have h2 : WD.heap.size ≤ g := (P13.out.low g hg).1; show ¬ g ≤ w.heap.size; omega)
                      have o2 := own_slAt o (by have := HLB.out; unfold maxLen; omega)
                      simpa using o2)
                  have NUM : Hid (ImgNum ⟨(sz : Int), ps, ss, xs, (st : Int), (ad : Int), bs⟩) := Lib.hid (by
                    refine ⟨⟨Int.natCast_nonneg _, by have := HSZ.out; show (sz : Int) < _; omega⟩, fun s hs => ?_, fun p hp => (ON1.out p hp).ents, fun y hy => (ON3.out y hy).1, fun y hy => (ON3.out y hy).2.1, fun y hy => (ON3.out y hy).2.2, ⟨Int.natCast_nonneg _, by have := HAD.out; show (ad : Int) < _; omega⟩, HB.out⟩
                    unfold spansI at hs
                    simp only [List.mem_append, List.mem_flatMap, List.mem_cons, List.not_mem_nil, or_false] at hs
                    rcases hs with ⟨p, hp, rfl | rfl | rfl⟩ | hs
                    · exact (ON1.out p hp).code
                    · exact (ON1.out p hp).data
                    · exact (ON1.out p hp).stack
                    · exact ON2.out s hs)
                  have MID : Hid (ImgMid ⟨(sz : Int), ps, ss, xs, (st : Int), (ad : Int), bs⟩) := Lib.hid ⟨by have := HL1.out; show ps.length ≤ 1000; omega, by have := HL2.out; show ss.length ≤ 1000; omega, by have := HL3.out; show xs.length ≤ 1000; omega, by have := HLB.out; show bs.length ≤ 100000; omega, fun p hp => by have := (ON1.out p hp).name; omega, fun p hp => by have := (ON1.out p hp).few; omega⟩
                  have KW13 : Hid (Keep w w13) := Lib.hid (KWD.out.butNew P13.out.but (fun y hy => by have h2 : y = r ∨ y = x := hy; have := NN.out; omega))
                  have RES : Hid (Box w13 w.heap.size #[.int .u32 0, .slice none 0 0, .slice none 0 0, .slice none 0 0, .int .i64 0, .int .u32 0, .slice none 0 0]) := Lib.hid (RESD.out.but P13.out.but (by intro e; have h2 : w.heap.size = r ∨ w.heap.size = x := e; have := RWX.out; omega))
                  have BX : Hid (Box w13 x #[.int .u32 (sz : Int), (.slice pp ps.length pc), (.slice sp ss.length sc), (.slice xp xs.length xc), .int .i64 (st : Int), .int .u32 (ad : Int), (.slice pv nv cv)]) := Lib.hid P13.out.box
                  have NX := Lib.hid (show ¬ x = w.heap.size by have := RWX.out; omega)
                  have NRr := Lib.hid (show ¬ r = w.heap.size by have := RWX.out; omega)
                  have RDD : Hid (RdSt w13 r (.slice ip l.length ic) l S13) := Lib.hid P13.out.rd
                  obtain ⟨qq, u, hRB, huu⟩ : ∃ (qq : Nat) (u : Value), Box w13 r #[(.slice ip l.length ic), .int .i64 (qq : Int), u] ∧ (∀ W, KeepBut (fun z => z = w.heap.size) w13 W → match readI l with
                      | .ok (y, _) => (⟨(sz : Int), ps, ss, xs, (st : Int), (ad : Int), bs⟩ : ImgV) = y ∧ u = .nilIface
                      | .error (a, c) => c ≠ 0 ∧ OErr W u (byteT, a, c)) := by
                    have gr := GR.out
                    have rd := RDD.out
                    have res := RES.out
                    cases S13 with
                    | ok p11 =>
                      refine ⟨p11, .nilIface, rd.2, fun W _ => ?_⟩
                      cases hX : readI l with
                      | error e => rw [hX] at gr; cases gr
                      | ok y => obtain ⟨y, q⟩ := y; rw [hX] at gr; exact ⟨gr.1, rfl⟩
                    | error e11 =>
                      obtain ⟨a, c⟩ := e11
                      obtain ⟨q, p11, h1, h2, h3, h4, h5⟩ := rd
                      refine ⟨p11, faultP q, h4, fun W k => ?_⟩
                      cases hX : readI l with
                      | ok y => obtain ⟨y, q⟩ := y; rw [hX] at gr; cases gr.2
                      | error e =>
                        rw [hX] at gr
                        cases gr
                        refine ⟨h3, .inr ⟨q, byteT, a, c, h3, rfl, rfl, ?_⟩⟩
                        refine h5.but k (fun e => ?_)
                        subst e
                        obtain ⟨t1, e1⟩ := res
                        obtain ⟨t2, e2⟩ := h5
                        rw [e1] at e2
                        cases e2
                  have RB := Lib.hid hRB
                  have UU := Lib.hid huu
                  clear hRB huu
                  clear P13 GR
                  go_wp2_with fail
                  refine Rel.regionO (KeepBut (fun z => z = w.heap.size)) (butWay _) [5] [0, 1, 2, 3, 4, 5, 6] (by kernel_rfl) (by kernel_rfl) (Keep.refl _) ?_
                  repeat (apply Rel.ordK_step (by rfl) (by rfl) (by rfl)
                          · intro W' hW'
                            have cx := (BX.out.but hW' NX.out).cells
                            have cr_ := (RB.out.but hW' NRr.out).cells
                            go_simp
                            exact ⟨rfl, Keep.refl _⟩
                          go_simp)
                  apply Rel.ordK_loose (by rfl) (by rfl) (by rfl)
                  intro Wb hWb
                  have Bb := RES.out.keep hWb
                  have fb := Bb.thawed
                  have cb := Bb.cells
                  go_simp
                  apply Rel.gives_skip
                  obtain ⟨W4, hW4⟩ : ∃ W4, W4 = (((((((Wb.setCell ⟨w.heap.size, 0, none⟩ (.int .u32 (sz : Int))).setCell ⟨w.heap.size, 1, none⟩ ((.slice pp ps.length pc))).setCell ⟨w.heap.size, 2, none⟩ ((.slice sp ss.length sc))).setCell ⟨w.heap.size, 3, none⟩ ((.slice xp xs.length xc))).setCell ⟨w.heap.size, 4, none⟩ (.int .i64 (st : Int))).setCell ⟨w.heap.size, 5, none⟩ (.int .u32 (ad : Int))).setCell ⟨w.heap.size, 6, none⟩ ((.slice pv nv cv))) := ⟨_, rfl⟩
                  rw [← hW4]
                  have B4 : Box W4 w.heap.size #[.int .u32 (sz : Int), (.slice pp ps.length pc), (.slice sp ss.length sc), (.slice xp xs.length xc), .int .i64 (st : Int), .int .u32 (ad : Int), (.slice pv nv cv)] := by
                    rw [hW4]; simpa using (((((((Bb.set 0 (.int .u32 (sz : Int))).set 1 ((.slice pp ps.length pc))).set 2 ((.slice sp ss.length sc))).set 3 ((.slice xp xs.length xc))).set 4 (.int .i64 (st : Int))).set 5 (.int .u32 (ad : Int))).set 6 ((.slice pv nv cv)))
                  have K34 : KeepBut (fun z => z = w.heap.size) Wb W4 := by
                    rw [hW4]
                    repeat (with_reducible refine KeepBut.setAt ?_ ?_ _; · exact .inl rfl)
                    exact KeepBut.refl _ _
                  have K4 := Lib.hid ((hWb.but (fun z => z = w.heap.size)).trans K34)
                  refine ⟨K34, ?_⟩
                  clear hW4 K34 Bb fb cb hWb
                  go_simp
                  apply Rel.ordK_step (by rfl) (by rfl) (by rfl)
                  · intro W' hW'
                    go_simp
                    exact ⟨rfl, Keep.refl _⟩
                  go_simp
                  apply Rel.ordK_end
                  intro W5 hW5
                  have K5 := Lib.hid (K4.out.trans (hW5.but _))
                  have r0 := (B4.keep hW5).cells
                  have rf := (B4.keep hW5).thawed
                  clear hW5 B4 K4
                  go_wp2_with fail
                  refine bodyPost_ret (v := .tuple #[.agg #[.int .u32 (sz : Int), (.slice pp ps.length pc), (.slice sp ss.length sc), (.slice xp xs.length xc), .int .i64 (st : Int), .int .u32 (ad : Int), (.slice pv nv cv)], u]) (by simp [results, Tryd.results24, go_sem, r0]; done) rfl ?_
                  exact ⟨⟨(sz : Int), ps, ss, xs, (st : Int), (ad : Int), bs⟩, _, _, _, _, ves, u, rfl, KW13.out.butNew K5.out (fun y hy => by omega), fun W k => OBJ.out W ((K5.out.mono (fun z _ e => by have h2 : z = w.heap.size := e; show z ≤ w.heap.size; omega)).trans (k.mono (fun z _ e => by have h2 : z < w.heap.size := e; show z ≤ w.heap.size; omega))), NUM.out, MID.out, UU.out _ K5.out⟩
                · intro W2 h2
                  have P2 := Lib.hid (P.out.keep' h2)
                  go_simp
                  apply Rel.gives_enter
                  go_at_call 52
                  refine (itake_any w r _ l HX.out S11 n4 (by have := HN4.out; omega) W2 P2.out.rd).mono ?_
                  rintro e w8 ⟨v, bs, S12, rfl, ⟨hsl, hb, hlen⟩, hst, hgot, hk⟩
                  refine ⟨_, rfl, hk.mono (fun _ _ h => .inl h), ?_⟩
                  have PP := Lib.hid (P2.out.read hk hst)
                  have G12 := Lib.hid hgot
                  have K8 : Hid (Keep w w8) := Lib.hid ((KWD.out.butNew P2.out.but (fun y hy => by have h2 : y = r ∨ y = x := hy; have := NN.out; omega)).butNew hk (fun y hy => by have := NN.out; omega))
                  have SR := Lib.hid (SlAt.src (P := Tryd.prog) Tryd.underlying26 (hsl.keep K8.out))
                  have HB := Lib.hid hb
                  have HLB := Lib.hid (show bs.length ≤ 65536 by have := HN4.out; rcases hlen with rfl | e; exact Nat.zero_le _; omega)
                  have SL0 := Lib.hid hsl
                  clear hsl hb hlen K8
                  clear hst hgot h2 P2 P hk
                  have P := Lib.hid PP.out
                  clear PP
                  go_simp
                  apply Rel.every_one 1 (by kernel_rfl) (by rfl) (by rfl)
                  intro W1 h1
                  have PP := Lib.hid (P.out.keep' h1)
                  have cx := PP.out.box.cells
                  go_simp
                  apply Rel.gives_value
                  refine ⟨KeepBut.refl _ _, ?_⟩
                  clear h1 cx P
                  have P := Lib.hid PP.out
                  clear PP
                  go_simp
                  apply Rel.every_one 6 (by kernel_rfl) (by rfl) (by rfl)
                  intro W6 h6
                  have P6 := Lib.hid (P.out.keep' h6)
                  have S6 := Lib.hid (SlAt.src (P := Tryd.prog) Tryd.underlying26 (SL0.out.keep (KWD.out.butNew P6.out.but (fun y hy => by have h2 : y = r ∨ y = x := hy; have := NN.out; omega))))
                  refine gives_append_src W6 (.tmp 57) (.tmp 61) 26 26 rfl WD.heap.size 5 i0 _ 1 1 Tryd.underlying26 hi0 hz0 hz1 hz2 rfl _ _ _ rfl P6.out.row _ bs.length (bs.map byteV) rfl S6.out (by have := HLB.out; unfold maxLen; omega) (by have := HLB.out; omega) P6.out.but.size ?_
                  intro v7 V7 o7 g7 b7
                  refine ⟨grown_but g7 _ (fun g hg => nomatch hg), ?_⟩
                  have PP := Lib.hid (P6.out.push o7 g7 (P6.out.rd.grown g7 (fun _ _ _ _ e => nomatch e)))
                  have NV := Lib.hid (show 0 + bs.length ≤ maxLen by have := HLB.out; unfold maxLen; omega)
                  obtain ⟨pv, cv, hv7, _, _, _⟩ := owns_cells o7 NV.out
                  obtain ⟨nv, hnv⟩ : ∃ nv, nv = 0 + bs.length := ⟨_, rfl⟩
                  rw [← hnv] at hv7
                  clear hnv
                  subst hv7
                  clear o7 g7 b7 h6 P6 P S6
                  have P := Lib.hid PP.out
                  clear PP
                  go_simp
                  apply Rel.every_one 7 (by kernel_rfl) (by rfl) (by rfl)
                  intro W8 h8
                  go_simp
                  apply Rel.gives_value
                  refine ⟨KeepBut.refl _ _, ?_⟩
                  have PP := Lib.hid (P.out.keep' h8)
                  clear h8 P
                  have P := Lib.hid PP.out
                  clear PP
                  go_simp
                  apply Rel.every_one 8 (by kernel_rfl) (by rfl) (by rfl)
                  intro W9 h9
                  have P9 := Lib.hid (P.out.keep' h9)
                  have cx := P9.out.box.cells
                  have fx := P9.out.box.thawed
                  go_simp
                  apply Rel.gives_skip
                  refine ⟨KeepBut.setAt (S := fun z => z = r ∨ z = x ∨ WD.heap.size ≤ z) (.inl (.inr (.inl rfl))) (KeepBut.refl _ _) _, ?_⟩
                  have PP := Lib.hid (P9.out.store 6 (.slice pv nv cv) (C' := #[.int .u32 (sz : Int), (.slice pp ps.length pc), (.slice sp ss.length sc), (.slice xp xs.length xc), .int .i64 (st : Int), .int .u32 (ad : Int), (.slice pv nv cv)]) rfl)
                  clear h9 cx fx P9 P
                  have P := Lib.hid PP.out
                  clear PP
                  go_simp
                  refine Rel.every_end (by kernel_rfl) ?_
                  intro WE hE
                  have PP := Lib.hid (P.out.keep' hE)
                  clear hE P
                  have P := Lib.hid PP.out
                  clear PP
                  go_wp2_with fail
                  refine (iend_rd w r _ l HX.out S12 WE P.out.rd).mono ?_
                  rintro e w13 ⟨S13, rfl, hst, hgot, hk⟩
                  have G13 := Lib.hid hgot
                  have P13 := Lib.hid (P.out.read hk hst)
                  clear hst hgot hk P
                  have GR := Lib.hid (readI_got G1.out G2.out G3.out GL1.out G5.out GL2.out G7.out GL3.out G9.out G10.out G11.out G12.out G13.out)
                  have LE := Lib.hid (show w.heap.size < WA.heap.size ∧ WA.heap.size ≤ WB_.heap.size ∧ WB_.heap.size ≤ WC_.heap.size ∧ WC_.heap.size ≤ WD.heap.size from ⟨by have := NN.out; have := XLT.out; omega, PA.out.but.size, PB.out.but.size, PC.out.but.size⟩)
                  have OBJ : Hid (∀ W, KeepBut (fun z => z ≤ w.heap.size) w13 W → ImgAt W ⟨(sz : Int), ps, ss, xs, (st : Int), (ad : Int), bs⟩ (.slice pp ps.length pc) (.slice sp ss.length sc) (.slice xp xs.length xc) (.slice pv nv cv) (ves)) := Lib.hid (fun W k => by
                    have le := LE.out
                    have nn := NN.out
                    have xl := XLT.out
                    have rwx := RWX.out
                    have kD : KeepBut (fun z => z < WA.heap.size) WD W := (P13.out.but.mono (fun z _ e => by have h2 : z = r ∨ z = x := e; show z < WA.heap.size; omega)).trans (k.mono (fun z _ e => by show z < WA.heap.size; have h2 : z ≤ w.heap.size := e; omega))
                    have kC : KeepBut (fun z => z < WA.heap.size) WC_ W := (PC.out.but.mono (fun z _ e => by have h2 : z = r ∨ z = x := e; show z < WA.heap.size; omega)).trans kD
                    have kB : KeepBut (fun z => z < WA.heap.size) WB_ W := (PB.out.but.mono (fun z _ e => by have h2 : z = r ∨ z = x := e; show z < WA.heap.size; omega)).trans kC
                    refine ⟨own_slAt (owns_but PA.out.row kB (fun g hg => by have h2 : WA.heap.size ≤ g := (PA.out.low g hg).1; show ¬ g < WA.heap.size; omega)) (show ps.length ≤ maxLen by have := HL1.out; unfold maxLen; omega), PEA.out.len, fun j p v hp hv => ?_, own_slAt (owns_but PB.out.row kC (fun g hg => by have h2 : WB_.heap.size ≤ g := (PB.out.low g hg).1; show ¬ g < WA.heap.size; omega)) (show ss.length ≤ maxLen by have := HL2.out; unfold maxLen; omega), own_slAt (owns_but PC.out.row kD (fun g hg => by have h2 : WC_.heap.size ≤ g := (PC.out.low g hg).1; show ¬ g < WA.heap.size; omega)) (show xs.length ≤ maxLen by have := HL3.out; unfold maxLen; omega), ?_⟩
                    · have o := (PEA.out.row j p v hp hv).1
                      refine own_slAt (owns_but o kB (fun g hg => by have := (World.ownsRow.lt o g hg).1; show ¬ g < WA.heap.size; omega)) ?_
                      have := (ON1.out p (List.mem_of_getElem? hp)).few
                      unfold maxLen; omega
                    · have o := owns_but P13.out.row k (fun g hg => by have h2 : WD.heap.size ≤ g := (P13.out.low g hg).1; show ¬ g ≤ w.heap.size; omega)
                      have o2 := own_slAt o (by have := HLB.out; unfold maxLen; omega)
                      simpa using o2)
                  have NUM : Hid (ImgNum ⟨(sz : Int), ps, ss, xs, (st : Int), (ad : Int), bs⟩) := Lib.hid (by
                    refine ⟨⟨Int.natCast_nonneg _, by have := HSZ.out; show (sz : Int) < _; omega⟩, fun s hs => ?_, fun p hp => (ON1.out p hp).ents, fun y hy => (ON3.out y hy).1, fun y hy => (ON3.out y hy).2.1, fun y hy => (ON3.out y hy).2.2, ⟨Int.natCast_nonneg _, by have := HAD.out; show (ad : Int) < _; omega⟩, HB.out⟩
                    unfold spansI at hs
                    simp only [List.mem_append, List.mem_flatMap, List.mem_cons, List.not_mem_nil, or_false] at hs
                    rcases hs with ⟨p, hp, rfl | rfl | rfl⟩ | hs
                    · exact (ON1.out p hp).code
                    · exact (ON1.out p hp).data
                    · exact (ON1.out p hp).stack
                    · exact ON2.out s hs)
                  have MID : Hid (ImgMid ⟨(sz : Int), ps, ss, xs, (st : Int), (ad : Int), bs⟩) := Lib.hid ⟨by have := HL1.out; show ps.length ≤ 1000; omega, by have := HL2.out; show ss.length ≤ 1000; omega, by have := HL3.out; show xs.length ≤ 1000; omega, by have := HLB.out; show bs.length ≤ 100000; omega, fun p hp => by have := (ON1.out p hp).name; omega, fun p hp => by have := (ON1.out p hp).few; omega⟩
                  have KW13 : Hid (Keep w w13) := Lib.hid (KWD.out.butNew P13.out.but (fun y hy => by have h2 : y = r ∨ y = x := hy; have := NN.out; omega))
                  have RES : Hid (Box w13 w.heap.size #[.int .u32 0, .slice none 0 0, .slice none 0 0, .slice none 0 0, .int .i64 0, .int .u32 0, .slice none 0 0]) := Lib.hid (RESD.out.but P13.out.but (by intro e; have h2 : w.heap.size = r ∨ w.heap.size = x := e; have := RWX.out; omega))
                  have BX : Hid (Box w13 x #[.int .u32 (sz : Int), (.slice pp ps.length pc), (.slice sp ss.length sc), (.slice xp xs.length xc), .int .i64 (st : Int), .int .u32 (ad : Int), (.slice pv nv cv)]) := Lib.hid P13.out.box
                  have NX := Lib.hid (show ¬ x = w.heap.size by have := RWX.out; omega)
                  have NRr := Lib.hid (show ¬ r = w.heap.size by have := RWX.out; omega)
                  have RDD : Hid (RdSt w13 r (.slice ip l.length ic) l S13) := Lib.hid P13.out.rd
                  obtain ⟨qq, u, hRB, huu⟩ : ∃ (qq : Nat) (u : Value), Box w13 r #[(.slice ip l.length ic), .int .i64 (qq : Int), u] ∧ (∀ W, KeepBut (fun z => z = w.heap.size) w13 W → match readI l with
                      | .ok (y, _) => (⟨(sz : Int), ps, ss, xs, (st : Int), (ad : Int), bs⟩ : ImgV) = y ∧ u = .nilIface
                      | .error (a, c) => c ≠ 0 ∧ OErr W u (byteT, a, c)) := by
                    have gr := GR.out
                    have rd := RDD.out
                    have res := RES.out
                    cases S13 with
                    | ok p11 =>
                      refine ⟨p11, .nilIface, rd.2, fun W _ => ?_⟩
                      cases hX : readI l with
                      | error e => rw [hX] at gr; cases gr
                      | ok y => obtain ⟨y, q⟩ := y; rw [hX] at gr; exact ⟨gr.1, rfl⟩
                    | error e11 =>
                      obtain ⟨a, c⟩ := e11
                      obtain ⟨q, p11, h1, h2, h3, h4, h5⟩ := rd
                      refine ⟨p11, faultP q, h4, fun W k => ?_⟩
                      cases hX : readI l with
                      | ok y => obtain ⟨y, q⟩ := y; rw [hX] at gr; cases gr.2
                      | error e =>
                        rw [hX] at gr
                        cases gr
                        refine ⟨h3, .inr ⟨q, byteT, a, c, h3, rfl, rfl, ?_⟩⟩
                        refine h5.but k (fun e => ?_)
                        subst e
                        obtain ⟨t1, e1⟩ := res
                        obtain ⟨t2, e2⟩ := h5
                        rw [e1] at e2
                        cases e2
                  have RB := Lib.hid hRB
                  have UU := Lib.hid huu
                  clear hRB huu
                  clear P13 GR
                  go_wp2_with fail
                  refine Rel.regionO (KeepBut (fun z => z = w.heap.size)) (butWay _) [5] [0, 1, 2, 3, 4, 5, 6] (by kernel_rfl) (by kernel_rfl) (Keep.refl _) ?_
                  repeat (apply Rel.ordK_step (by rfl) (by rfl) (by rfl)
                          · intro W' hW'
                            have cx := (BX.out.but hW' NX.out).cells
                            have cr_ := (RB.out.but hW' NRr.out).cells
                            go_simp
                            exact ⟨rfl, Keep.refl _⟩
                          go_simp)
                  apply Rel.ordK_loose (by rfl) (by rfl) (by rfl)
                  intro Wb hWb
                  have Bb := RES.out.keep hWb
                  have fb := Bb.thawed
                  have cb := Bb.cells
                  go_simp
                  apply Rel.gives_skip
                  obtain ⟨W4, hW4⟩ : ∃ W4, W4 = (((((((Wb.setCell ⟨w.heap.size, 0, none⟩ (.int .u32 (sz : Int))).setCell ⟨w.heap.size, 1, none⟩ ((.slice pp ps.length pc))).setCell ⟨w.heap.size, 2, none⟩ ((.slice sp ss.length sc))).setCell ⟨w.heap.size, 3, none⟩ ((.slice xp xs.length xc))).setCell ⟨w.heap.size, 4, none⟩ (.int .i64 (st : Int))).setCell ⟨w.heap.size, 5, none⟩ (.int .u32 (ad : Int))).setCell ⟨w.heap.size, 6, none⟩ ((.slice pv nv cv))) := ⟨_, rfl⟩
                  rw [← hW4]
                  have B4 : Box W4 w.heap.size #[.int .u32 (sz : Int), (.slice pp ps.length pc), (.slice sp ss.length sc), (.slice xp xs.length xc), .int .i64 (st : Int), .int .u32 (ad : Int), (.slice pv nv cv)] := by
                    rw [hW4]; simpa using (((((((Bb.set 0 (.int .u32 (sz : Int))).set 1 ((.slice pp ps.length pc))).set 2 ((.slice sp ss.length sc))).set 3 ((.slice xp xs.length xc))).set 4 (.int .i64 (st : Int))).set 5 (.int .u32 (ad : Int))).set 6 ((.slice pv nv cv)))
                  have K34 : KeepBut (fun z => z = w.heap.size) Wb W4 := by
                    rw [hW4]
                    repeat (with_reducible refine KeepBut.setAt ?_ ?_ _; · exact .inl rfl)
                    exact KeepBut.refl _ _
                  have K4 := Lib.hid ((hWb.but (fun z => z = w.heap.size)).trans K34)
                  refine ⟨K34, ?_⟩
                  clear hW4 K34 Bb fb cb hWb
                  go_simp
                  apply Rel.ordK_step (by rfl) (by rfl) (by rfl)
                  · intro W' hW'
                    go_simp
                    exact ⟨rfl, Keep.refl _⟩
                  go_simp
                  apply Rel.ordK_end
                  intro W5 hW5
                  have K5 := Lib.hid (K4.out.trans (hW5.but _))
                  have r0 := (B4.keep hW5).cells
                  have rf := (B4.keep hW5).thawed
                  clear hW5 B4 K4
                  go_wp2_with fail
                  refine bodyPost_ret (v := .tuple #[.agg #[.int .u32 (sz : Int), (.slice pp ps.length pc), (.slice sp ss.length sc), (.slice xp xs.length xc), .int .i64 (st : Int), .int .u32 (ad : Int), (.slice pv nv cv)], u]) (by simp [results, Tryd.results24, go_sem, r0]; done) rfl ?_
                  exact ⟨⟨(sz : Int), ps, ss, xs, (st : Int), (ad : Int), bs⟩, _, _, _, _, ves, u, rfl, KW13.out.butNew K5.out (fun y hy => by omega), fun W k => OBJ.out W ((K5.out.mono (fun z _ e => by have h2 : z = w.heap.size := e; show z ≤ w.heap.size; omega)).trans (k.mono (fun z _ e => by have h2 : z < w.heap.size := e; show z ≤ w.heap.size; omega))), NUM.out, MID.out, UU.out _ K5.out⟩
end Go.Proofs.YtmcbeclkocjlkaaDoor
