/- ObjPPut, ObjPTxt, ObjPEnt, ObjPEnc: The program's bytes of a number, a text, a section, behind what is its own. -/
import Derived.Test.YtahnbeoacdnhjaaDoorObjC
import Derived.Test.YtahnbeoacdnhjaaDoorObjGen
import Derived.Test.YtahnbeoacdnhjaaDoorGBase
import Derived.Maps.AppendAt
import Derived.IntWalk
import Derived.Test.YtahnbeoacdnhjaaDoorAppSrc
import Derived.Test.YtahnbeoacdnhjaaDoorGObjPB
import Derived.Lib.SlBytesConst
/- The program's bytes of a number, a text, a section, behind what is its own. -/
namespace Go.Proofs.YtahnbeoacdnhjaaDoor
set_option linter.unusedVariables false
set_option linter.unusedSimpArgs false
open Go Go.RowKit
/-- Bytes that are one's own. -/
def Own8 (w : World) (B : Nat) (v : Value) (xs : List Nat) : Prop := w.ownsRow B 5 1 v xs.length (xs.map byteV)
/-- The row's block afterwards: as it was, or new. -/
def OwnTo (w : World) (r r' : Option Nat) : Prop := r' = r ∨ ∃ g, r' = some g ∧ w.heap.size ≤ g
theorem OwnTo.trans {w w1 : World} {r r1 r2 : Option Nat} (hs : w.heap.size ≤ w1.heap.size) (h : OwnTo w r r1) (k : OwnTo w1 r1 r2) : OwnTo w r r2 := by
  rcases k with rfl | ⟨g, rfl, hg⟩
  · exact h
  · exact .inr ⟨g, rfl, Nat.le_trans hs hg⟩
theorem grow_trans {w w1 w2 : World} {r r1 : Option Nat} (h : w.grownBy w1 r) (ho : OwnTo w r r1) (k : w1.grownBy w2 r1) : w.grownBy w2 r :=
  ⟨k.os.trans h.os, k.tape.trans h.tape, k.output.trans h.output, Nat.le_trans h.size k.size, fun j hj hr => by
    refine (k.block j (Nat.lt_of_lt_of_le hj h.size) ?_).trans (h.block j hj hr)
    rcases ho with rfl | ⟨g, rfl, hg⟩
    · exact hr
    · intro e
      simp only [Option.some.injEq] at e
      omega⟩
theorem grow_refl (w : World) (r : Option Nat) : w.grownBy w r := ⟨rfl, rfl, rfl, Nat.le_refl _, fun _ _ _ => rfl⟩
theorem keep_grow {w w' : World} (k : Keep w w') (r : Option Nat) : w.grownBy w' r := ⟨Below.os k, Below.tape k, Below.output k, k.size, fun j hj _ => Below.block k j hj⟩
/-- What stays from a world in which the row's block was not there. -/
theorem grow_keep0 {w0 w w' : World} {r : Option Nat} (k : Keep w0 w) (h : w.grownBy w' r) (hr : ∀ g, r = some g → w0.heap.size ≤ g) : Keep w0 w' := grown_keep k h hr
/-- What a writer of bytes answers. -/
def PutR (w : World) (B : Nat) (v0 : Value) (xs : List Nat) (e : Ending) (w' : World) : Prop := ∃ v, e = .returned v ∧ Own8 w' B v xs ∧ w.grownBy w' v0.ownBlock ∧ OwnTo w v0.ownBlock v.ownBlock
theorem byte_cell (w : World) (c : Int) (t : TypeId) : ∀ j u, [Value.int .u8 c][j]? = some u → (w.alloc (.cells #[.int .u8 c] t)).cell? ((⟨w.heap.size, 0, none⟩ : Addr).add j) = some u := cell_one_new w _ t
theorem own8_one {w : World} {B : Nat} {v : Value} {xs : List Nat} {c : Int} {y : Nat} (hc : c = (y : Int)) (h : w.ownsRow B 5 1 v (xs.length + 1) (xs.map byteV ++ [.int .u8 c])) : Own8 w B v (xs ++ [y]) := by
  subst hc
  unfold Own8
  simpa [byteV] using h
/-- One append more, of what was just laid. -/
theorem put_step {w W w1 : World} {r0 r r1 : Option Nat} {o : Obj} (G : w.grownBy W r0) (O : OwnTo w r0 r) (hg : (W.alloc o).grownBy w1 r) (hb : r1 = r ∨ ∃ g, r1 = some g ∧ W.heap.size ≤ g) : w.grownBy w1 r0 ∧ OwnTo w r0 r1 := by
  refine ⟨grow_trans (grow_trans G O (World.grownBy_alloc W o r)) (O.trans (Nat.le_refl _) (.inl rfl)) hg, ?_⟩
  rcases hb with rfl | ⟨g, rfl, hg⟩
  · exact O
  · exact .inr ⟨_, rfl, Nat.le_trans G.size hg⟩
set_option maxHeartbeats 4000000 in
set_option maxRecDepth 100000 in
theorem pnum_any (B : Nat) (v : Value) (xs : List Nat) (n : Nat) (hn : n < 4294967296) (few : xs.length ≤ 1000000) (w : World) (hB : B ≤ w.heap.size) (h : Own8 w B v xs) :
    Calls Tryd.prog 21 #[v, .int .u32 (n : Int)] w (PutR w B v (xs ++ num4 n)) := by
  obtain ⟨i0, hi0, hz0, hz1, hz2⟩ := oinfo_parts infoU8
  have H0 := Lib.hid h
  have G0 : Hid (w.grownBy w v.ownBlock ∧ OwnTo w v.ownBlock v.ownBlock) := Lib.hid ⟨grow_refl _ _, .inl rfl⟩
  clear h
  go_enter Tryd.func21, Tryd.ntmps21
  go_wp2_with fail
  refine wp_loop_rounds 5 ?_
  rw [rounds_succ]
  go_wp2_with (at_builtin; (refine wpList_append_own_at _ rfl _ _ 22 rfl B 5 i0 _ 1 1 Tryd.underlying22 hi0 hz0 hz1 hz2 rfl (by decide) _ _ _ rfl (World.ownsRow.alloc H0.out _) ⟨w.heap.size, 0, none⟩ 1 1 [.int .u8 ((n : Int) % 256)] rfl rfl (byte_cell _ _ _) ?d0 ?e0 ?f0 ?g0 ?_))
  case d0 => intro u hu; simp at hu; subst hu; rfl
  case e0 => unfold maxLen; simp; omega
  case f0 => simp; omega
  case g0 => have := G0.out.1.size; simp; omega
  intro v1 w1 hown hgrow _ hblk
  rw [show (n : Int) % 256 = ((n % 256 : Nat) : Int) by omega] at hown
  have H1 : Hid (Own8 w1 B v1 (xs ++ [n % 256])) := Lib.hid (by unfold Own8; simpa [byteV] using hown)
  have G1 := Lib.hid (put_step G0.out.1 G0.out.2 hgrow (hblk.imp id (fun h => ⟨_, h, by first | omega | simp⟩)))
  clear hown hgrow hblk
  go_wp2_with fail
  rw [rounds_succ]
  go_wp2_with (at_builtin; (refine wpList_append_own_at _ rfl _ _ 22 rfl B 5 i0 _ 1 1 Tryd.underlying22 hi0 hz0 hz1 hz2 rfl (by decide) _ _ _ rfl (World.ownsRow.alloc H1.out _) ⟨w1.heap.size, 0, none⟩ 1 1 [.int .u8 ((n : Int) / 256 % 256)] rfl rfl (byte_cell _ _ _) ?d1 ?e1 ?f1 ?g1 ?_))
  case d1 => intro u hu; simp at hu; subst hu; rfl
  case e1 => unfold maxLen; simp; omega
  case f1 => simp; omega
  case g1 => have := G1.out.1.size; simp; omega
  intro v2 w2 hown hgrow _ hblk
  rw [show (n : Int) / 256 % 256 = ((n / 256 % 256 : Nat) : Int) by omega] at hown
  have H2 : Hid (Own8 w2 B v2 (xs ++ [n % 256, n / 256 % 256])) := Lib.hid (by unfold Own8; simpa [byteV] using hown)
  have G2 := Lib.hid (put_step G1.out.1 G1.out.2 hgrow (hblk.imp id (fun h => ⟨_, h, by first | omega | simp⟩)))
  clear hown hgrow hblk
  go_wp2_with fail
  rw [rounds_succ]
  go_wp2_with (at_builtin; (refine wpList_append_own_at _ rfl _ _ 22 rfl B 5 i0 _ 1 1 Tryd.underlying22 hi0 hz0 hz1 hz2 rfl (by decide) _ _ _ rfl (World.ownsRow.alloc H2.out _) ⟨w2.heap.size, 0, none⟩ 1 1 [.int .u8 ((n : Int) / 65536 % 256)] rfl rfl (byte_cell _ _ _) ?d2 ?e2 ?f2 ?g2 ?_))
  case d2 => intro u hu; simp at hu; subst hu; rfl
  case e2 => unfold maxLen; simp; omega
  case f2 => simp; omega
  case g2 => have := G2.out.1.size; simp; omega
  intro v3 w3 hown hgrow _ hblk
  rw [show (n : Int) / 65536 % 256 = ((n / 65536 % 256 : Nat) : Int) by omega] at hown
  have H3 : Hid (Own8 w3 B v3 (xs ++ [n % 256, n / 256 % 256, n / 65536 % 256])) := Lib.hid (by unfold Own8; simpa [byteV] using hown)
  have G3 := Lib.hid (put_step G2.out.1 G2.out.2 hgrow (hblk.imp id (fun h => ⟨_, h, by first | omega | simp⟩)))
  clear hown hgrow hblk
  go_wp2_with fail
  rw [rounds_succ]
  go_wp2_with (at_builtin; (refine wpList_append_own_at _ rfl _ _ 22 rfl B 5 i0 _ 1 1 Tryd.underlying22 hi0 hz0 hz1 hz2 rfl (by decide) _ _ _ rfl (World.ownsRow.alloc H3.out _) ⟨w3.heap.size, 0, none⟩ 1 1 [.int .u8 ((n : Int) / 16777216)] rfl rfl (byte_cell _ _ _) ?d3 ?e3 ?f3 ?g3 ?_))
  case d3 => intro u hu; simp at hu; subst hu; rfl
  case e3 => unfold maxLen; simp; omega
  case f3 => simp; omega
  case g3 => have := G3.out.1.size; simp; omega
  intro v4 w4 hown hgrow _ hblk
  rw [show (n : Int) / 16777216 = ((n / 16777216 % 256 : Nat) : Int) by omega] at hown
  have H4 : Hid (Own8 w4 B v4 (xs ++ [n % 256, n / 256 % 256, n / 65536 % 256, n / 16777216 % 256])) := Lib.hid (by unfold Own8; simpa [byteV] using hown)
  have G4 := Lib.hid (put_step G3.out.1 G3.out.2 hgrow (hblk.imp id (fun h => ⟨_, h, by first | omega | simp⟩)))
  clear hown hgrow hblk
  go_wp2_with fail
  rw [rounds_succ]
  go_wp2_with fail
  go_ret
  exact ⟨v4, rfl, by simpa [num4, List.append_assoc] using H4.out, G4.out.1, G4.out.2⟩
end Go.Proofs.YtahnbeoacdnhjaaDoor

/- The program's putText, putSection. -/
namespace Go.Proofs.YtahnbeoacdnhjaaDoor
set_option linter.unusedVariables false
set_option linter.unusedSimpArgs false
open Go Go.RowKit
theorem str_cells (s : ByteArray) : byteCells s = (s.data.toList.map UInt8.toNat).map byteV := by
  unfold byteCells
  rw [List.map_map]
  rfl
/-- What lies where a slice says can be appended. -/
theorem SlAt.src {P : Program} {tx e : TypeId} (hk : P.underlying tx = some (.slice e)) {w : World} {v : Value} {l : List Nat} (h : SlAt w v l.length (l.map byteV)) : Src P 1 tx v l.length (l.map byteV) w := by
  obtain ⟨p, cap, rfl, _, _, h3⟩ := h
  have one : ∀ u ∈ l.map byteV, u.oneCell' = true := fun u hu => by
    obtain ⟨x, _, rfl⟩ := List.mem_map.1 hu
    rfl
  rcases h3 with h3 | ⟨b, off, rfl, _, h5⟩
  · have hl : l = [] := List.map_eq_nil_iff.1 h3
    subst hl
    cases p with
    | none => exact Src.ofNil w hk cap
    | some a => exact Src.ofSlice w hk a 0 cap [] rfl (fun j u hj => by simp at hj) (fun u hu => by cases hu)
  · refine Src.ofSlice w hk _ _ cap _ (by simp) (fun j u hj => ?_) one
    rw [show (⟨b, off, none⟩ : Addr).add j = ⟨b, off + j, none⟩ by unfold Addr.add; split <;> simp_all]
    exact h5 j u hj
theorem Own8.lt {w : World} {B : Nat} {v : Value} {xs : List Nat} (h : Own8 w B v xs) : ∀ g, v.ownBlock = some g → B ≤ g ∧ g < w.heap.size := World.ownsRow.lt h
/-- One append more. -/
theorem put_more {w W w1 : World} {r0 r r1 : Option Nat} (G : w.grownBy W r0) (O : OwnTo w r0 r) (hg : W.grownBy w1 r) (hb : r1 = r ∨ ∃ g, r1 = some g ∧ W.heap.size ≤ g) : w.grownBy w1 r0 ∧ OwnTo w r0 r1 :=
  ⟨grow_trans G O hg, O.trans G.size hb⟩
set_option maxHeartbeats 4000000 in
set_option maxRecDepth 100000 in
theorem ptext_any (B : Nat) (v : Value) (xs : List Nat) (s : ByteArray) (hs : s.size ≤ 255) (few : xs.length ≤ 1000000) (w : World) (hB : B ≤ w.heap.size) (h : Own8 w B v xs) :
    Calls Tryd.prog 19 #[v, .string s] w (PutR w B v (xs ++ strB s)) := by
  obtain ⟨i0, hi0, hz0, hz1, hz2⟩ := oinfo_parts infoU8
  have H0 := Lib.hid h
  have G0 : Hid (w.grownBy w v.ownBlock ∧ OwnTo w v.ownBlock v.ownBlock) := Lib.hid ⟨grow_refl _ _, .inl rfl⟩
  have wr : IntKind.u8.wrap (s.size : Int) = (s.size : Int) := by rw [IntKind.wrap_u8]; omega
  clear h
  go_enter Tryd.func19, Tryd.ntmps19
  go_wp2_with (at_builtin; (refine wpList_append_own_at _ rfl _ _ 22 rfl B 5 i0 _ 1 1 Tryd.underlying22 hi0 hz0 hz1 hz2 rfl (by decide) _ _ _ rfl (World.ownsRow.alloc H0.out _) ⟨w.heap.size, 0, none⟩ 1 1 [.int .u8 (s.size : Int)] rfl rfl (byte_cell _ _ _) ?d0 ?e0 ?f0 ?g0 ?_))
  case d0 => intro u hu; simp at hu; subst hu; rfl
  case e0 => unfold maxLen; simp; omega
  case f0 => simp; omega
  case g0 => simp; omega
  intro v1 w1 hown hgrow _ hblk
  have H1 : Hid (Own8 w1 B v1 (xs ++ [s.size])) := Lib.hid (by unfold Own8; simpa [byteV] using hown)
  have G1 := Lib.hid (put_step G0.out.1 G0.out.2 hgrow (hblk.imp id (fun h => ⟨_, h, by first | omega | simp⟩)))
  clear hown hgrow hblk
  go_wp2_with (at_builtin; (refine wpList_append_src_at rfl _ _ 22 9 rfl B 5 i0 _ 1 1 Tryd.underlying22 hi0 hz0 hz1 hz2 rfl _ _ _ rfl H1.out (.string s) s.size (byteCells s) rfl (Src.ofString _ Tryd.underlying9 s) ?e1 ?f1 ?g1 ?_))
  case e1 => unfold maxLen; simp; omega
  case f1 => simp; omega
  case g1 => have := G1.out.1.size; omega
  intro v2 w2 hown hgrow hblk
  have H2 : Hid (Own8 w2 B v2 (xs ++ strB s)) := Lib.hid (by
    rw [str_cells] at hown
    unfold Own8 strB
    have e : (xs ++ s.size :: s.data.toList.map UInt8.toNat).length = (xs ++ [s.size]).length + s.size := by simp; omega
    rw [e]
    simpa [byteV] using hown)
  have G2 := Lib.hid (put_more G1.out.1 G1.out.2 hgrow hblk)
  clear hown hgrow hblk
  go_wp2_with fail
  go_ret
  exact ⟨v2, rfl, H2.out, G2.out.1, G2.out.2⟩
set_option maxHeartbeats 4000000 in
set_option maxRecDepth 100000 in
/-- putText behind a row that is full. -/
theorem ptextF_any (B g : Nat) (xs : List Nat) (s : ByteArray) (hs : s.size ≤ 255) (few : xs.length ≤ 1000000) (w : World) (hB : B ≤ w.heap.size) (hg : g < w.heap.size) (hc : ∀ j u, (xs.map byteV)[j]? = some u → w.cell? ⟨g, j, none⟩ = some u) :
    Calls Tryd.prog 19 #[.slice (some ⟨g, 0, none⟩) xs.length xs.length, .string s] w fun e w' => ∃ v, e = .returned v ∧ Own8 w' B v (xs ++ strB s) ∧ Keep w w' := by
  obtain ⟨i0, hi0, hz0, hz1, hz2⟩ := oinfo_parts infoU8
  have K0 : Hid (Keep w (w.alloc (.cells #[.int .u8 (s.size : Int)] 5))) := Lib.hid ((Keep.refl _).alloc _)
  have HC := Lib.hid hc
  have wr : IntKind.u8.wrap (s.size : Int) = (s.size : Int) := by rw [IntKind.wrap_u8]; omega
  clear hc
  go_enter Tryd.func19, Tryd.ntmps19
  go_wp2_with (at_builtin; (refine wpList_append_full rfl _ _ 22 22 rfl w.heap.size 5 i0 _ 1 1 Tryd.underlying22 hi0 hz0 hz1 hz2 rfl ⟨g, 0, none⟩ xs.length (xs.map byteV) rfl (by simp) ?b0 _ 1 [.int .u8 (s.size : Int)] rfl (Src.ofSlice _ Tryd.underlying22 ⟨w.heap.size, 0, none⟩ 1 1 _ rfl (byte_cell _ _ _) ?d0) (by decide) ?e0 ?f0 ?g0 ?_))
  case b0 => intro j u hj; rw [show (⟨g, 0, none⟩ : Addr).add j = ⟨g, j, none⟩ by unfold Addr.add; split <;> simp_all]; exact K0.out.cellOf (HC.out j u hj)
  case d0 => intro u hu; simp at hu; subst hu; rfl
  case e0 => unfold maxLen; omega
  case f0 => omega
  case g0 => have := K0.out.size; omega
  intro v1 w1 hown hk
  have H1 : Hid (Own8 w1 w.heap.size v1 (xs ++ [s.size])) := Lib.hid (by unfold Own8; simpa [byteV] using hown)
  have K1 := Lib.hid (K0.out.trans hk)
  clear hown hk
  go_wp2_with (at_builtin; (refine wpList_append_src_at rfl _ _ 22 9 rfl w.heap.size 5 i0 _ 1 1 Tryd.underlying22 hi0 hz0 hz1 hz2 rfl _ _ _ rfl H1.out (.string s) s.size (byteCells s) rfl (Src.ofString _ Tryd.underlying9 s) ?e1 ?f1 ?g1 ?_))
  case e1 => unfold maxLen; simp; omega
  case f1 => simp; omega
  case g1 => exact K1.out.size
  intro v2 w2 hown hgrow hblk
  have H2 : Hid (Own8 w2 w.heap.size v2 (xs ++ strB s)) := Lib.hid (by
    rw [str_cells] at hown
    unfold Own8 strB
    have e : (xs ++ s.size :: s.data.toList.map UInt8.toNat).length = (xs ++ [s.size]).length + s.size := by simp; omega
    rw [e]
    simpa [byteV] using hown)
  have K2 := Lib.hid (grow_keep0 K1.out hgrow (fun g hg => (H1.out.lt g hg).1))
  clear hown hgrow hblk
  go_wp2_with fail
  go_ret
  exact ⟨v2, rfl, owns_base H2.out hB, K2.out⟩
set_option maxHeartbeats 4000000 in
set_option maxRecDepth 100000 in
theorem psecB_any (W0 : World) (B : Nat) (v u : Value) (xs l : List Nat) (hl : l.length ≤ 100000) (few : xs.length ≤ 500000) (w : World) (hB : B ≤ w.heap.size) (h : Own8 w B v xs) (k0 : Keep W0 w) (hW : W0.heap.size ≤ B) (hu : SlAt W0 u l.length (l.map byteV)) :
    Calls Tryd.prog 20 #[v, u] w (PutR w B v (xs ++ (num4 l.length ++ l))) := by
  obtain ⟨i0, hi0, hz0, hz1, hz2⟩ := oinfo_parts infoU8
  have HU := Lib.hid hu
  have C1 := Lib.hid (pnum_any B v xs l.length (by omega) (by omega) w hB h)
  have LT := Lib.hid (fun g hg => Nat.le_trans hW (h.lt g hg).1)
  have K0 := Lib.hid k0
  have wr : IntKind.u32.wrap (l.length : Int) = (l.length : Int) := IntWalk.u32_in _ (by omega)
  obtain ⟨pu, cu, rfl, _, _, _⟩ := hu
  clear h k0
  go_enter Tryd.func20, Tryd.ntmps20
  go_wp2_with fail
  refine C1.out.mono ?_
  rintro e w1 ⟨v1, rfl, h1, g1, o1⟩
  have H1 := Lib.hid h1
  have G1 := Lib.hid g1
  have O1 := Lib.hid o1
  have S1 := Lib.hid (SlAt.src (P := Tryd.prog) Tryd.underlying22 (HU.out.keep (grow_keep0 K0.out g1 LT.out)))
  clear h1 g1 o1
  go_wp2_with (at_builtin; (refine wpList_append_src_at rfl _ _ 22 22 rfl B 5 i0 _ 1 1 Tryd.underlying22 hi0 hz0 hz1 hz2 rfl _ _ _ rfl H1.out _ l.length (l.map byteV) rfl S1.out ?e1 ?f1 ?g1 ?_))
  case e1 => unfold maxLen; simp [num4]; omega
  case f1 => simp [num4]; omega
  case g1 => have := G1.out.size; omega
  intro v2 w2 hown hgrow hblk
  have H2 : Hid (Own8 w2 B v2 (xs ++ (num4 l.length ++ l))) := Lib.hid (by
    unfold Own8
    have e : (xs ++ (num4 l.length ++ l)).length = (xs ++ num4 l.length).length + l.length := by simp; omega
    rw [e]
    simpa using hown)
  have G2 := Lib.hid (put_more G1.out O1.out hgrow hblk)
  clear hown hgrow hblk
  go_wp2_with fail
  go_ret
  exact ⟨v2, rfl, H2.out, G2.out.1, G2.out.2⟩
end Go.Proofs.YtahnbeoacdnhjaaDoor

/- The program's putSymbol, putRelocation. -/
namespace Go.Proofs.YtahnbeoacdnhjaaDoor
set_option linter.unusedVariables false
set_option linter.unusedSimpArgs false
open Go Go.RowKit
/-- What a loose step of a writer leaves. -/
structure PutAt (W0 : World) (B : Nat) (r0 : Option Nat) (v : Value) (xs : List Nat) (W : World) : Prop where
  own : Own8 W B v xs
  grown : W0.grownBy W r0
  to : OwnTo W0 r0 v.ownBlock
theorem PutAt.keep {W0 : World} {B : Nat} {r0 : Option Nat} {v : Value} {xs : List Nat} {W W' : World} (h : PutAt W0 B r0 v xs W) (k : Keep W W') : PutAt W0 B r0 v xs W' :=
  ⟨owns_keep h.own k, grow_trans h.grown h.to (keep_grow k _), h.to⟩
theorem PutAt.next {W0 : World} {B : Nat} {r0 : Option Nat} {v v' : Value} {xs ys : List Nat} {W W' : World} (h : PutAt W0 B r0 v xs W) (o : Own8 W' B v' ys) (g : W.grownBy W' v.ownBlock) (b : OwnTo W v.ownBlock v'.ownBlock) : PutAt W0 B r0 v' ys W' :=
  ⟨o, grow_trans h.grown h.to g, h.to.trans h.grown.size b⟩
theorem PutAt.but {W0 : World} {B : Nat} {r0 : Option Nat} {v : Value} {xs : List Nat} {W W' : World} (h : PutAt W0 B r0 v xs W) (g : W.grownBy W' v.ownBlock) : KeepBut (fun z => r0 = some z ∨ W0.heap.size ≤ z) W W' :=
  grown_but g _ (fun z hz => by
    rcases h.to with e | ⟨y, e, hy⟩
    · left; rw [← e]; exact hz
    · right
      rw [e] at hz
      simp only [Option.some.injEq] at hz
      omega)
/-- A box that was there stays. -/
theorem PutAt.box {W0 : World} {B : Nat} {r0 : Option Nat} {v : Value} {xs : List Nat} {W : World} (h : PutAt W0 B r0 v xs W) {b : Nat} {vs : Array Value} (hb : Box W0 b vs) (hn : r0 ≠ some b) : Box W b vs :=
  grown_box h.grown hb (fun e => hn e.symm)
theorem append_own {xs : List Nat} {w : World} {B : Nat} {v : Value} {y : Nat} {n : Nat} {l : List Value} (h : w.ownsRow B 5 1 v (n + 1) (l ++ [.int .u8 (y : Int)])) (hn : n = xs.length) (hl : l = xs.map byteV) : Own8 w B v (xs ++ [y]) := by
  subst hn hl
  unfold Own8
  simpa [byteV] using h
set_option maxHeartbeats 4000000 in
set_option maxRecDepth 100000 in
theorem psymB_aux (B : Nat) (v : Value) (xs : List Nat) (nm : ByteArray) (d x : Bool) (n : Nat) (hs : nm.size ≤ 255) (hn : n < 4294967296) (few : xs.length ≤ 500000) (w : World) (hB : B ≤ w.heap.size) (h : Own8 w B v xs) :
    Calls Tryd.prog 22 #[v, .agg #[.string nm, .bool d, .int .u32 (n : Int), .bool x]] w (PutR w B v (xs ++ symB ⟨nm, d, n, x⟩)) := by
  obtain ⟨i0, hi0, hz0, hz1, hz2⟩ := oinfo_parts infoU8
  obtain ⟨W0, hW0⟩ : ∃ W0, W0 = w.alloc (.cells #[.string nm, .bool d, .int .u32 (n : Int), .bool x] 47) := ⟨_, rfl⟩
  have K0 : Hid (Keep w W0) := Lib.hid (by rw [hW0]; exact (Keep.refl _).alloc _)
  have BS : Hid (Box W0 w.heap.size #[.string nm, .bool d, .int .u32 (n : Int), .bool x]) := Lib.hid (by rw [hW0]; exact Box.new _ _ _)
  have NB : ∀ g, v.ownBlock = some g → g < w.heap.size := fun g hg => (h.lt g hg).2
  have P0 : Hid (PutAt W0 B v.ownBlock v xs W0) := Lib.hid ⟨owns_keep h K0.out, grow_refl _ _, .inl rfl⟩
  have NS := Lib.hid (show v.ownBlock ≠ some w.heap.size from fun e => by have := NB _ e; omega)
  have hB0 : B ≤ W0.heap.size := Nat.le_trans hB K0.out.size
  have sl : (strB nm).length = nm.size + 1 := by simp [strB]
  have b01 : bits .or .u8 0 1 = 1 := by kernel_rfl
  have b02 : bits .or .u8 0 2 = 2 := by kernel_rfl
  have b12 : bits .or .u8 1 2 = 3 := by kernel_rfl
  clear h
  cases d
  all_goals (
    cases x
    all_goals (
      go_enter Tryd.func22, Tryd.ntmps22
      go_wp2_with fail
      rw [← hW0]
      clear hW0
      refine Rel.regionP (KeepBut (fun z => v.ownBlock = some z ∨ W0.heap.size ≤ z)) (butWay _) [] [0, 1, 2, 4, 7, 8] 5 (by kernel_rfl) (by kernel_rfl) (Keep.refl _) ?_
      repeat (apply Rel.pre_step (by rfl) (by rfl) (by rfl)
              · intro W' hW'
                have cS := (BS.out.but hW' (by rintro (e | e); exact NS.out e; have := BS.out.lt; omega)).cells
                go_simp
                exact ⟨rfl, Keep.refl _⟩
              go_simp)
      apply Rel.pre_end
      have P := P0
      refine Rel.every_two 3 5 (by kernel_rfl) (by rfl) (by rfl) (by rfl) (by rfl) ?_ ?_))
  · intro W6 h6
    have P6 := Lib.hid (P.out.keep h6)
    go_simp
    apply Rel.gives_enter
    go_at_call 19
    refine (ptext_any B v xs nm hs (by omega) W6 (by have := P6.out.grown.size; omega) P6.out.own).mono ?_
    rintro e w7 ⟨v7, rfl, o7, g7, b7⟩
    refine ⟨_, rfl, P6.out.but g7, ?_⟩
    have PP := Lib.hid (P6.out.next o7 g7 b7)
    clear o7 g7 b7 h6 P6 P
    have P := PP
    clear PP
    go_simp
    apply Rel.every_one 5 (by kernel_rfl) (by rfl) (by rfl)
    intro W2 h2
    go_simp
    apply Rel.gives_value
    refine ⟨((Keep.refl _).alloc _).but _, ?_⟩
    have PP := Lib.hid (P.out.keep (h2.alloc (.cells #[.int .u8 (0 : Int)] 5)))
    have BB := Lib.hid (Box.new W2 #[.int .u8 (0 : Int)] 5)
    obtain ⟨gb, hgb⟩ : ∃ gb, gb = W2.heap.size := ⟨_, rfl⟩
    have GS : W0.heap.size ≤ gb := by rw [hgb]; exact (P.out.keep h2).grown.size
    rw [← hgb] at BB ⊢
    obtain ⟨WB, hWB⟩ : ∃ WB, WB = W2.alloc (.cells #[.int .u8 (0 : Int)] 5) := ⟨_, rfl⟩
    rw [← hWB] at PP BB ⊢
    clear hWB hgb h2 P
    have P := PP
    clear PP
    go_simp
    apply Rel.every_one 6 (by kernel_rfl) (by rfl) (by rfl)
    intro W4 h4
    have P4 := Lib.hid (P.out.keep h4)
    have B4 := BB.out.keep h4
    refine gives_append_src W4 (.tmp 17) (.tmp 19) 22 22 rfl B 5 i0 _ 1 1 Tryd.underlying22 hi0 hz0 hz1 hz2 rfl _ _ _ rfl P4.out.own (.slice (some ⟨gb, 0, none⟩) 1 1) 1 [.int .u8 (0 : Int)] rfl (Src.ofSlice W4 Tryd.underlying22 _ 1 1 _ rfl (fun j u hj => by match j, hj with | 0, hj => simp at hj; subst hj; simp [Addr.add, B4.cells] | j + 1, hj => simp at hj) (fun u hu => by simp at hu; subst hu; rfl)) (by unfold maxLen; simp [sl]; omega) (by simp [sl]; omega) (by have := P4.out.grown.size; omega) ?_
    intro v5 V5 o5 g5 b5
    refine ⟨P4.out.but g5, ?_⟩
    have PP := Lib.hid (P4.out.next (append_own (y := 0) o5 rfl rfl) g5 b5)
    clear o5 g5 b5 h4 B4 P4 P
    have P := PP
    clear PP
    go_simp
    apply Rel.every_one 9 (by kernel_rfl) (by rfl) (by rfl)
    intro W6 h6
    have P6 := Lib.hid (P.out.keep h6)
    go_simp
    apply Rel.gives_enter
    go_at_call 21
    refine (pnum_any B _ _ n hn (by simp [sl]; omega) W6 (by have := P6.out.grown.size; omega) P6.out.own).mono ?_
    rintro e w7 ⟨v7, rfl, o7, g7, b7⟩
    refine ⟨_, rfl, P6.out.but g7, ?_⟩
    have PP := Lib.hid (P6.out.next o7 g7 b7)
    clear o7 g7 b7 h6 P6 P
    have P := PP
    clear PP
    go_simp
    apply Rel.every_one 10 (by kernel_rfl) (by rfl) (by rfl)
    intro W8 h8
    go_simp
    apply Rel.gives_value
    refine ⟨KeepBut.refl _ _, ?_⟩
    have PP := Lib.hid (P.out.keep h8)
    clear P h8
    have P := PP
    clear PP
    go_simp
    refine Rel.every_end (by kernel_rfl) ?_
    intro W9 h9
    have P9 := Lib.hid (P.out.keep h9)
    clear P h9
    go_wp2_with fail
    go_ret
    exact ⟨_, rfl, by simpa [symB, flagB, List.append_assoc] using P9.out.own, grow_trans (keep_grow K0.out _) (.inl rfl) P9.out.grown, OwnTo.trans K0.out.size (.inl rfl) P9.out.to⟩
  · intro W2 h2
    go_simp
    apply Rel.gives_value
    refine ⟨((Keep.refl _).alloc _).but _, ?_⟩
    have PP := Lib.hid (P.out.keep (h2.alloc (.cells #[.int .u8 (0 : Int)] 5)))
    have BB := Lib.hid (Box.new W2 #[.int .u8 (0 : Int)] 5)
    obtain ⟨gb, hgb⟩ : ∃ gb, gb = W2.heap.size := ⟨_, rfl⟩
    have GS : W0.heap.size ≤ gb := by rw [hgb]; exact (P.out.keep h2).grown.size
    rw [← hgb] at BB ⊢
    obtain ⟨WB, hWB⟩ : ∃ WB, WB = W2.alloc (.cells #[.int .u8 (0 : Int)] 5) := ⟨_, rfl⟩
    rw [← hWB] at PP BB ⊢
    clear hWB hgb h2 P
    have P := PP
    clear PP
    go_simp
    apply Rel.every_one 3 (by kernel_rfl) (by rfl) (by rfl)
    intro W6 h6
    have P6 := Lib.hid (P.out.keep h6)
    go_simp
    apply Rel.gives_enter
    go_at_call 19
    refine (ptext_any B v xs nm hs (by omega) W6 (by have := P6.out.grown.size; omega) P6.out.own).mono ?_
    rintro e w7 ⟨v7, rfl, o7, g7, b7⟩
    have B7 := grown_box g7 (BB.out.keep h6) (fun e => by have := NB _ e.symm; have := K0.out.size; omega)
    clear BB
    have BB := Lib.hid B7
    clear B7
    refine ⟨_, rfl, P6.out.but g7, ?_⟩
    have PP := Lib.hid (P6.out.next o7 g7 b7)
    clear o7 g7 b7 h6 P6 P
    have P := PP
    clear PP
    go_simp
    apply Rel.every_one 6 (by kernel_rfl) (by rfl) (by rfl)
    intro W4 h4
    have P4 := Lib.hid (P.out.keep h4)
    have B4 := BB.out.keep h4
    refine gives_append_src W4 (.tmp 17) (.tmp 19) 22 22 rfl B 5 i0 _ 1 1 Tryd.underlying22 hi0 hz0 hz1 hz2 rfl _ _ _ rfl P4.out.own (.slice (some ⟨gb, 0, none⟩) 1 1) 1 [.int .u8 (0 : Int)] rfl (Src.ofSlice W4 Tryd.underlying22 _ 1 1 _ rfl (fun j u hj => by match j, hj with | 0, hj => simp at hj; subst hj; simp [Addr.add, B4.cells] | j + 1, hj => simp at hj) (fun u hu => by simp at hu; subst hu; rfl)) (by unfold maxLen; simp [sl]; omega) (by simp [sl]; omega) (by have := P4.out.grown.size; omega) ?_
    intro v5 V5 o5 g5 b5
    refine ⟨P4.out.but g5, ?_⟩
    have PP := Lib.hid (P4.out.next (append_own (y := 0) o5 rfl rfl) g5 b5)
    clear o5 g5 b5 h4 B4 P4 P
    have P := PP
    clear PP
    go_simp
    apply Rel.every_one 9 (by kernel_rfl) (by rfl) (by rfl)
    intro W6 h6
    have P6 := Lib.hid (P.out.keep h6)
    go_simp
    apply Rel.gives_enter
    go_at_call 21
    refine (pnum_any B _ _ n hn (by simp [sl]; omega) W6 (by have := P6.out.grown.size; omega) P6.out.own).mono ?_
    rintro e w7 ⟨v7, rfl, o7, g7, b7⟩
    refine ⟨_, rfl, P6.out.but g7, ?_⟩
    have PP := Lib.hid (P6.out.next o7 g7 b7)
    clear o7 g7 b7 h6 P6 P
    have P := PP
    clear PP
    go_simp
    apply Rel.every_one 10 (by kernel_rfl) (by rfl) (by rfl)
    intro W8 h8
    go_simp
    apply Rel.gives_value
    refine ⟨KeepBut.refl _ _, ?_⟩
    have PP := Lib.hid (P.out.keep h8)
    clear P h8
    have P := PP
    clear PP
    go_simp
    refine Rel.every_end (by kernel_rfl) ?_
    intro W9 h9
    have P9 := Lib.hid (P.out.keep h9)
    clear P h9
    go_wp2_with fail
    go_ret
    exact ⟨_, rfl, by simpa [symB, flagB, List.append_assoc] using P9.out.own, grow_trans (keep_grow K0.out _) (.inl rfl) P9.out.grown, OwnTo.trans K0.out.size (.inl rfl) P9.out.to⟩
  · intro W6 h6
    have P6 := Lib.hid (P.out.keep h6)
    go_simp
    apply Rel.gives_enter
    go_at_call 19
    refine (ptext_any B v xs nm hs (by omega) W6 (by have := P6.out.grown.size; omega) P6.out.own).mono ?_
    rintro e w7 ⟨v7, rfl, o7, g7, b7⟩
    refine ⟨_, rfl, P6.out.but g7, ?_⟩
    have PP := Lib.hid (P6.out.next o7 g7 b7)
    clear o7 g7 b7 h6 P6 P
    have P := PP
    clear PP
    go_simp
    apply Rel.every_one 5 (by kernel_rfl) (by rfl) (by rfl)
    intro W2 h2
    go_simp
    apply Rel.gives_value
    refine ⟨((Keep.refl _).alloc _).but _, ?_⟩
    have PP := Lib.hid (P.out.keep (h2.alloc (.cells #[.int .u8 (2 : Int)] 5)))
    have BB := Lib.hid (Box.new W2 #[.int .u8 (2 : Int)] 5)
    obtain ⟨gb, hgb⟩ : ∃ gb, gb = W2.heap.size := ⟨_, rfl⟩
    have GS : W0.heap.size ≤ gb := by rw [hgb]; exact (P.out.keep h2).grown.size
    rw [← hgb] at BB ⊢
    obtain ⟨WB, hWB⟩ : ∃ WB, WB = W2.alloc (.cells #[.int .u8 (2 : Int)] 5) := ⟨_, rfl⟩
    rw [← hWB] at PP BB ⊢
    clear hWB hgb h2 P
    have P := PP
    clear PP
    go_simp
    apply Rel.every_one 6 (by kernel_rfl) (by rfl) (by rfl)
    intro W4 h4
    have P4 := Lib.hid (P.out.keep h4)
    have B4 := BB.out.keep h4
    refine gives_append_src W4 (.tmp 17) (.tmp 19) 22 22 rfl B 5 i0 _ 1 1 Tryd.underlying22 hi0 hz0 hz1 hz2 rfl _ _ _ rfl P4.out.own (.slice (some ⟨gb, 0, none⟩) 1 1) 1 [.int .u8 (2 : Int)] rfl (Src.ofSlice W4 Tryd.underlying22 _ 1 1 _ rfl (fun j u hj => by match j, hj with | 0, hj => simp at hj; subst hj; simp [Addr.add, B4.cells] | j + 1, hj => simp at hj) (fun u hu => by simp at hu; subst hu; rfl)) (by unfold maxLen; simp [sl]; omega) (by simp [sl]; omega) (by have := P4.out.grown.size; omega) ?_
    intro v5 V5 o5 g5 b5
    refine ⟨P4.out.but g5, ?_⟩
    have PP := Lib.hid (P4.out.next (append_own (y := 2) o5 rfl rfl) g5 b5)
    clear o5 g5 b5 h4 B4 P4 P
    have P := PP
    clear PP
    go_simp
    apply Rel.every_one 9 (by kernel_rfl) (by rfl) (by rfl)
    intro W6 h6
    have P6 := Lib.hid (P.out.keep h6)
    go_simp
    apply Rel.gives_enter
    go_at_call 21
    refine (pnum_any B _ _ n hn (by simp [sl]; omega) W6 (by have := P6.out.grown.size; omega) P6.out.own).mono ?_
    rintro e w7 ⟨v7, rfl, o7, g7, b7⟩
    refine ⟨_, rfl, P6.out.but g7, ?_⟩
    have PP := Lib.hid (P6.out.next o7 g7 b7)
    clear o7 g7 b7 h6 P6 P
    have P := PP
    clear PP
    go_simp
    apply Rel.every_one 10 (by kernel_rfl) (by rfl) (by rfl)
    intro W8 h8
    go_simp
    apply Rel.gives_value
    refine ⟨KeepBut.refl _ _, ?_⟩
    have PP := Lib.hid (P.out.keep h8)
    clear P h8
    have P := PP
    clear PP
    go_simp
    refine Rel.every_end (by kernel_rfl) ?_
    intro W9 h9
    have P9 := Lib.hid (P.out.keep h9)
    clear P h9
    go_wp2_with fail
    go_ret
    exact ⟨_, rfl, by simpa [symB, flagB, List.append_assoc] using P9.out.own, grow_trans (keep_grow K0.out _) (.inl rfl) P9.out.grown, OwnTo.trans K0.out.size (.inl rfl) P9.out.to⟩
  · intro W2 h2
    go_simp
    apply Rel.gives_value
    refine ⟨((Keep.refl _).alloc _).but _, ?_⟩
    have PP := Lib.hid (P.out.keep (h2.alloc (.cells #[.int .u8 (2 : Int)] 5)))
    have BB := Lib.hid (Box.new W2 #[.int .u8 (2 : Int)] 5)
    obtain ⟨gb, hgb⟩ : ∃ gb, gb = W2.heap.size := ⟨_, rfl⟩
    have GS : W0.heap.size ≤ gb := by rw [hgb]; exact (P.out.keep h2).grown.size
    rw [← hgb] at BB ⊢
    obtain ⟨WB, hWB⟩ : ∃ WB, WB = W2.alloc (.cells #[.int .u8 (2 : Int)] 5) := ⟨_, rfl⟩
    rw [← hWB] at PP BB ⊢
    clear hWB hgb h2 P
    have P := PP
    clear PP
    go_simp
    apply Rel.every_one 3 (by kernel_rfl) (by rfl) (by rfl)
    intro W6 h6
    have P6 := Lib.hid (P.out.keep h6)
    go_simp
    apply Rel.gives_enter
    go_at_call 19
    refine (ptext_any B v xs nm hs (by omega) W6 (by have := P6.out.grown.size; omega) P6.out.own).mono ?_
    rintro e w7 ⟨v7, rfl, o7, g7, b7⟩
    have B7 := grown_box g7 (BB.out.keep h6) (fun e => by have := NB _ e.symm; have := K0.out.size; omega)
    clear BB
    have BB := Lib.hid B7
    clear B7
    refine ⟨_, rfl, P6.out.but g7, ?_⟩
    have PP := Lib.hid (P6.out.next o7 g7 b7)
    clear o7 g7 b7 h6 P6 P
    have P := PP
    clear PP
    go_simp
    apply Rel.every_one 6 (by kernel_rfl) (by rfl) (by rfl)
    intro W4 h4
    have P4 := Lib.hid (P.out.keep h4)
    have B4 := BB.out.keep h4
    refine gives_append_src W4 (.tmp 17) (.tmp 19) 22 22 rfl B 5 i0 _ 1 1 Tryd.underlying22 hi0 hz0 hz1 hz2 rfl _ _ _ rfl P4.out.own (.slice (some ⟨gb, 0, none⟩) 1 1) 1 [.int .u8 (2 : Int)] rfl (Src.ofSlice W4 Tryd.underlying22 _ 1 1 _ rfl (fun j u hj => by match j, hj with | 0, hj => simp at hj; subst hj; simp [Addr.add, B4.cells] | j + 1, hj => simp at hj) (fun u hu => by simp at hu; subst hu; rfl)) (by unfold maxLen; simp [sl]; omega) (by simp [sl]; omega) (by have := P4.out.grown.size; omega) ?_
    intro v5 V5 o5 g5 b5
    refine ⟨P4.out.but g5, ?_⟩
    have PP := Lib.hid (P4.out.next (append_own (y := 2) o5 rfl rfl) g5 b5)
    clear o5 g5 b5 h4 B4 P4 P
    have P := PP
    clear PP
    go_simp
    apply Rel.every_one 9 (by kernel_rfl) (by rfl) (by rfl)
    intro W6 h6
    have P6 := Lib.hid (P.out.keep h6)
    go_simp
    apply Rel.gives_enter
    go_at_call 21
    refine (pnum_any B _ _ n hn (by simp [sl]; omega) W6 (by have := P6.out.grown.size; omega) P6.out.own).mono ?_
    rintro e w7 ⟨v7, rfl, o7, g7, b7⟩
    refine ⟨_, rfl, P6.out.but g7, ?_⟩
    have PP := Lib.hid (P6.out.next o7 g7 b7)
    clear o7 g7 b7 h6 P6 P
    have P := PP
    clear PP
    go_simp
    apply Rel.every_one 10 (by kernel_rfl) (by rfl) (by rfl)
    intro W8 h8
    go_simp
    apply Rel.gives_value
    refine ⟨KeepBut.refl _ _, ?_⟩
    have PP := Lib.hid (P.out.keep h8)
    clear P h8
    have P := PP
    clear PP
    go_simp
    refine Rel.every_end (by kernel_rfl) ?_
    intro W9 h9
    have P9 := Lib.hid (P.out.keep h9)
    clear P h9
    go_wp2_with fail
    go_ret
    exact ⟨_, rfl, by simpa [symB, flagB, List.append_assoc] using P9.out.own, grow_trans (keep_grow K0.out _) (.inl rfl) P9.out.grown, OwnTo.trans K0.out.size (.inl rfl) P9.out.to⟩
  · intro W6 h6
    have P6 := Lib.hid (P.out.keep h6)
    go_simp
    apply Rel.gives_enter
    go_at_call 19
    refine (ptext_any B v xs nm hs (by omega) W6 (by have := P6.out.grown.size; omega) P6.out.own).mono ?_
    rintro e w7 ⟨v7, rfl, o7, g7, b7⟩
    refine ⟨_, rfl, P6.out.but g7, ?_⟩
    have PP := Lib.hid (P6.out.next o7 g7 b7)
    clear o7 g7 b7 h6 P6 P
    have P := PP
    clear PP
    go_simp
    apply Rel.every_one 5 (by kernel_rfl) (by rfl) (by rfl)
    intro W2 h2
    go_simp
    apply Rel.gives_value
    refine ⟨((Keep.refl _).alloc _).but _, ?_⟩
    have PP := Lib.hid (P.out.keep (h2.alloc (.cells #[.int .u8 (1 : Int)] 5)))
    have BB := Lib.hid (Box.new W2 #[.int .u8 (1 : Int)] 5)
    obtain ⟨gb, hgb⟩ : ∃ gb, gb = W2.heap.size := ⟨_, rfl⟩
    have GS : W0.heap.size ≤ gb := by rw [hgb]; exact (P.out.keep h2).grown.size
    rw [← hgb] at BB ⊢
    obtain ⟨WB, hWB⟩ : ∃ WB, WB = W2.alloc (.cells #[.int .u8 (1 : Int)] 5) := ⟨_, rfl⟩
    rw [← hWB] at PP BB ⊢
    clear hWB hgb h2 P
    have P := PP
    clear PP
    go_simp
    apply Rel.every_one 6 (by kernel_rfl) (by rfl) (by rfl)
    intro W4 h4
    have P4 := Lib.hid (P.out.keep h4)
    have B4 := BB.out.keep h4
    refine gives_append_src W4 (.tmp 17) (.tmp 19) 22 22 rfl B 5 i0 _ 1 1 Tryd.underlying22 hi0 hz0 hz1 hz2 rfl _ _ _ rfl P4.out.own (.slice (some ⟨gb, 0, none⟩) 1 1) 1 [.int .u8 (1 : Int)] rfl (Src.ofSlice W4 Tryd.underlying22 _ 1 1 _ rfl (fun j u hj => by match j, hj with | 0, hj => simp at hj; subst hj; simp [Addr.add, B4.cells] | j + 1, hj => simp at hj) (fun u hu => by simp at hu; subst hu; rfl)) (by unfold maxLen; simp [sl]; omega) (by simp [sl]; omega) (by have := P4.out.grown.size; omega) ?_
    intro v5 V5 o5 g5 b5
    refine ⟨P4.out.but g5, ?_⟩
    have PP := Lib.hid (P4.out.next (append_own (y := 1) o5 rfl rfl) g5 b5)
    clear o5 g5 b5 h4 B4 P4 P
    have P := PP
    clear PP
    go_simp
    apply Rel.every_one 9 (by kernel_rfl) (by rfl) (by rfl)
    intro W6 h6
    have P6 := Lib.hid (P.out.keep h6)
    go_simp
    apply Rel.gives_enter
    go_at_call 21
    refine (pnum_any B _ _ n hn (by simp [sl]; omega) W6 (by have := P6.out.grown.size; omega) P6.out.own).mono ?_
    rintro e w7 ⟨v7, rfl, o7, g7, b7⟩
    refine ⟨_, rfl, P6.out.but g7, ?_⟩
    have PP := Lib.hid (P6.out.next o7 g7 b7)
    clear o7 g7 b7 h6 P6 P
    have P := PP
    clear PP
    go_simp
    apply Rel.every_one 10 (by kernel_rfl) (by rfl) (by rfl)
    intro W8 h8
    go_simp
    apply Rel.gives_value
    refine ⟨KeepBut.refl _ _, ?_⟩
    have PP := Lib.hid (P.out.keep h8)
    clear P h8
    have P := PP
    clear PP
    go_simp
    refine Rel.every_end (by kernel_rfl) ?_
    intro W9 h9
    have P9 := Lib.hid (P.out.keep h9)
    clear P h9
    go_wp2_with fail
    go_ret
    exact ⟨_, rfl, by simpa [symB, flagB, List.append_assoc] using P9.out.own, grow_trans (keep_grow K0.out _) (.inl rfl) P9.out.grown, OwnTo.trans K0.out.size (.inl rfl) P9.out.to⟩
  · intro W2 h2
    go_simp
    apply Rel.gives_value
    refine ⟨((Keep.refl _).alloc _).but _, ?_⟩
    have PP := Lib.hid (P.out.keep (h2.alloc (.cells #[.int .u8 (1 : Int)] 5)))
    have BB := Lib.hid (Box.new W2 #[.int .u8 (1 : Int)] 5)
    obtain ⟨gb, hgb⟩ : ∃ gb, gb = W2.heap.size := ⟨_, rfl⟩
    have GS : W0.heap.size ≤ gb := by rw [hgb]; exact (P.out.keep h2).grown.size
    rw [← hgb] at BB ⊢
    obtain ⟨WB, hWB⟩ : ∃ WB, WB = W2.alloc (.cells #[.int .u8 (1 : Int)] 5) := ⟨_, rfl⟩
    rw [← hWB] at PP BB ⊢
    clear hWB hgb h2 P
    have P := PP
    clear PP
    go_simp
    apply Rel.every_one 3 (by kernel_rfl) (by rfl) (by rfl)
    intro W6 h6
    have P6 := Lib.hid (P.out.keep h6)
    go_simp
    apply Rel.gives_enter
    go_at_call 19
    refine (ptext_any B v xs nm hs (by omega) W6 (by have := P6.out.grown.size; omega) P6.out.own).mono ?_
    rintro e w7 ⟨v7, rfl, o7, g7, b7⟩
    have B7 := grown_box g7 (BB.out.keep h6) (fun e => by have := NB _ e.symm; have := K0.out.size; omega)
    clear BB
    have BB := Lib.hid B7
    clear B7
    refine ⟨_, rfl, P6.out.but g7, ?_⟩
    have PP := Lib.hid (P6.out.next o7 g7 b7)
    clear o7 g7 b7 h6 P6 P
    have P := PP
    clear PP
    go_simp
    apply Rel.every_one 6 (by kernel_rfl) (by rfl) (by rfl)
    intro W4 h4
    have P4 := Lib.hid (P.out.keep h4)
    have B4 := BB.out.keep h4
    refine gives_append_src W4 (.tmp 17) (.tmp 19) 22 22 rfl B 5 i0 _ 1 1 Tryd.underlying22 hi0 hz0 hz1 hz2 rfl _ _ _ rfl P4.out.own (.slice (some ⟨gb, 0, none⟩) 1 1) 1 [.int .u8 (1 : Int)] rfl (Src.ofSlice W4 Tryd.underlying22 _ 1 1 _ rfl (fun j u hj => by match j, hj with | 0, hj => simp at hj; subst hj; simp [Addr.add, B4.cells] | j + 1, hj => simp at hj) (fun u hu => by simp at hu; subst hu; rfl)) (by unfold maxLen; simp [sl]; omega) (by simp [sl]; omega) (by have := P4.out.grown.size; omega) ?_
    intro v5 V5 o5 g5 b5
    refine ⟨P4.out.but g5, ?_⟩
    have PP := Lib.hid (P4.out.next (append_own (y := 1) o5 rfl rfl) g5 b5)
    clear o5 g5 b5 h4 B4 P4 P
    have P := PP
    clear PP
    go_simp
    apply Rel.every_one 9 (by kernel_rfl) (by rfl) (by rfl)
    intro W6 h6
    have P6 := Lib.hid (P.out.keep h6)
    go_simp
    apply Rel.gives_enter
    go_at_call 21
    refine (pnum_any B _ _ n hn (by simp [sl]; omega) W6 (by have := P6.out.grown.size; omega) P6.out.own).mono ?_
    rintro e w7 ⟨v7, rfl, o7, g7, b7⟩
    refine ⟨_, rfl, P6.out.but g7, ?_⟩
    have PP := Lib.hid (P6.out.next o7 g7 b7)
    clear o7 g7 b7 h6 P6 P
    have P := PP
    clear PP
    go_simp
    apply Rel.every_one 10 (by kernel_rfl) (by rfl) (by rfl)
    intro W8 h8
    go_simp
    apply Rel.gives_value
    refine ⟨KeepBut.refl _ _, ?_⟩
    have PP := Lib.hid (P.out.keep h8)
    clear P h8
    have P := PP
    clear PP
    go_simp
    refine Rel.every_end (by kernel_rfl) ?_
    intro W9 h9
    have P9 := Lib.hid (P.out.keep h9)
    clear P h9
    go_wp2_with fail
    go_ret
    exact ⟨_, rfl, by simpa [symB, flagB, List.append_assoc] using P9.out.own, grow_trans (keep_grow K0.out _) (.inl rfl) P9.out.grown, OwnTo.trans K0.out.size (.inl rfl) P9.out.to⟩
  · intro W6 h6
    have P6 := Lib.hid (P.out.keep h6)
    go_simp
    apply Rel.gives_enter
    go_at_call 19
    refine (ptext_any B v xs nm hs (by omega) W6 (by have := P6.out.grown.size; omega) P6.out.own).mono ?_
    rintro e w7 ⟨v7, rfl, o7, g7, b7⟩
    refine ⟨_, rfl, P6.out.but g7, ?_⟩
    have PP := Lib.hid (P6.out.next o7 g7 b7)
    clear o7 g7 b7 h6 P6 P
    have P := PP
    clear PP
    go_simp
    apply Rel.every_one 5 (by kernel_rfl) (by rfl) (by rfl)
    intro W2 h2
    go_simp
    apply Rel.gives_value
    refine ⟨((Keep.refl _).alloc _).but _, ?_⟩
    have PP := Lib.hid (P.out.keep (h2.alloc (.cells #[.int .u8 (3 : Int)] 5)))
    have BB := Lib.hid (Box.new W2 #[.int .u8 (3 : Int)] 5)
    obtain ⟨gb, hgb⟩ : ∃ gb, gb = W2.heap.size := ⟨_, rfl⟩
    have GS : W0.heap.size ≤ gb := by rw [hgb]; exact (P.out.keep h2).grown.size
    rw [← hgb] at BB ⊢
    obtain ⟨WB, hWB⟩ : ∃ WB, WB = W2.alloc (.cells #[.int .u8 (3 : Int)] 5) := ⟨_, rfl⟩
    rw [← hWB] at PP BB ⊢
    clear hWB hgb h2 P
    have P := PP
    clear PP
    go_simp
    apply Rel.every_one 6 (by kernel_rfl) (by rfl) (by rfl)
    intro W4 h4
    have P4 := Lib.hid (P.out.keep h4)
    have B4 := BB.out.keep h4
    refine gives_append_src W4 (.tmp 17) (.tmp 19) 22 22 rfl B 5 i0 _ 1 1 Tryd.underlying22 hi0 hz0 hz1 hz2 rfl _ _ _ rfl P4.out.own (.slice (some ⟨gb, 0, none⟩) 1 1) 1 [.int .u8 (3 : Int)] rfl (Src.ofSlice W4 Tryd.underlying22 _ 1 1 _ rfl (fun j u hj => by match j, hj with | 0, hj => simp at hj; subst hj; simp [Addr.add, B4.cells] | j + 1, hj => simp at hj) (fun u hu => by simp at hu; subst hu; rfl)) (by unfold maxLen; simp [sl]; omega) (by simp [sl]; omega) (by have := P4.out.grown.size; omega) ?_
    intro v5 V5 o5 g5 b5
    refine ⟨P4.out.but g5, ?_⟩
    have PP := Lib.hid (P4.out.next (append_own (y := 3) o5 rfl rfl) g5 b5)
    clear o5 g5 b5 h4 B4 P4 P
    have P := PP
    clear PP
    go_simp
    apply Rel.every_one 9 (by kernel_rfl) (by rfl) (by rfl)
    intro W6 h6
    have P6 := Lib.hid (P.out.keep h6)
    go_simp
    apply Rel.gives_enter
    go_at_call 21
    refine (pnum_any B _ _ n hn (by simp [sl]; omega) W6 (by have := P6.out.grown.size; omega) P6.out.own).mono ?_
    rintro e w7 ⟨v7, rfl, o7, g7, b7⟩
    refine ⟨_, rfl, P6.out.but g7, ?_⟩
    have PP := Lib.hid (P6.out.next o7 g7 b7)
    clear o7 g7 b7 h6 P6 P
    have P := PP
    clear PP
    go_simp
    apply Rel.every_one 10 (by kernel_rfl) (by rfl) (by rfl)
    intro W8 h8
    go_simp
    apply Rel.gives_value
    refine ⟨KeepBut.refl _ _, ?_⟩
    have PP := Lib.hid (P.out.keep h8)
    clear P h8
    have P := PP
    clear PP
    go_simp
    refine Rel.every_end (by kernel_rfl) ?_
    intro W9 h9
    have P9 := Lib.hid (P.out.keep h9)
    clear P h9
    go_wp2_with fail
    go_ret
    exact ⟨_, rfl, by simpa [symB, flagB, List.append_assoc] using P9.out.own, grow_trans (keep_grow K0.out _) (.inl rfl) P9.out.grown, OwnTo.trans K0.out.size (.inl rfl) P9.out.to⟩
  · intro W2 h2
    go_simp
    apply Rel.gives_value
    refine ⟨((Keep.refl _).alloc _).but _, ?_⟩
    have PP := Lib.hid (P.out.keep (h2.alloc (.cells #[.int .u8 (3 : Int)] 5)))
    have BB := Lib.hid (Box.new W2 #[.int .u8 (3 : Int)] 5)
    obtain ⟨gb, hgb⟩ : ∃ gb, gb = W2.heap.size := ⟨_, rfl⟩
    have GS : W0.heap.size ≤ gb := by rw [hgb]; exact (P.out.keep h2).grown.size
    rw [← hgb] at BB ⊢
    obtain ⟨WB, hWB⟩ : ∃ WB, WB = W2.alloc (.cells #[.int .u8 (3 : Int)] 5) := ⟨_, rfl⟩
    rw [← hWB] at PP BB ⊢
    clear hWB hgb h2 P
    have P := PP
    clear PP
    go_simp
    apply Rel.every_one 3 (by kernel_rfl) (by rfl) (by rfl)
    intro W6 h6
    have P6 := Lib.hid (P.out.keep h6)
    go_simp
    apply Rel.gives_enter
    go_at_call 19
    refine (ptext_any B v xs nm hs (by omega) W6 (by have := P6.out.grown.size; omega) P6.out.own).mono ?_
    rintro e w7 ⟨v7, rfl, o7, g7, b7⟩
    have B7 := grown_box g7 (BB.out.keep h6) (fun e => by have := NB _ e.symm; have := K0.out.size; omega)
    clear BB
    have BB := Lib.hid B7
    clear B7
    refine ⟨_, rfl, P6.out.but g7, ?_⟩
    have PP := Lib.hid (P6.out.next o7 g7 b7)
    clear o7 g7 b7 h6 P6 P
    have P := PP
    clear PP
    go_simp
    apply Rel.every_one 6 (by kernel_rfl) (by rfl) (by rfl)
    intro W4 h4
    have P4 := Lib.hid (P.out.keep h4)
    have B4 := BB.out.keep h4
    refine gives_append_src W4 (.tmp 17) (.tmp 19) 22 22 rfl B 5 i0 _ 1 1 Tryd.underlying22 hi0 hz0 hz1 hz2 rfl _ _ _ rfl P4.out.own (.slice (some ⟨gb, 0, none⟩) 1 1) 1 [.int .u8 (3 : Int)] rfl (Src.ofSlice W4 Tryd.underlying22 _ 1 1 _ rfl (fun j u hj => by match j, hj with | 0, hj => simp at hj; subst hj; simp [Addr.add, B4.cells] | j + 1, hj => simp at hj) (fun u hu => by simp at hu; subst hu; rfl)) (by unfold maxLen; simp [sl]; omega) (by simp [sl]; omega) (by have := P4.out.grown.size; omega) ?_
    intro v5 V5 o5 g5 b5
    refine ⟨P4.out.but g5, ?_⟩
    have PP := Lib.hid (P4.out.next (append_own (y := 3) o5 rfl rfl) g5 b5)
    clear o5 g5 b5 h4 B4 P4 P
    have P := PP
    clear PP
    go_simp
    apply Rel.every_one 9 (by kernel_rfl) (by rfl) (by rfl)
    intro W6 h6
    have P6 := Lib.hid (P.out.keep h6)
    go_simp
    apply Rel.gives_enter
    go_at_call 21
    refine (pnum_any B _ _ n hn (by simp [sl]; omega) W6 (by have := P6.out.grown.size; omega) P6.out.own).mono ?_
    rintro e w7 ⟨v7, rfl, o7, g7, b7⟩
    refine ⟨_, rfl, P6.out.but g7, ?_⟩
    have PP := Lib.hid (P6.out.next o7 g7 b7)
    clear o7 g7 b7 h6 P6 P
    have P := PP
    clear PP
    go_simp
    apply Rel.every_one 10 (by kernel_rfl) (by rfl) (by rfl)
    intro W8 h8
    go_simp
    apply Rel.gives_value
    refine ⟨KeepBut.refl _ _, ?_⟩
    have PP := Lib.hid (P.out.keep h8)
    clear P h8
    have P := PP
    clear PP
    go_simp
    refine Rel.every_end (by kernel_rfl) ?_
    intro W9 h9
    have P9 := Lib.hid (P.out.keep h9)
    clear P h9
    go_wp2_with fail
    go_ret
    exact ⟨_, rfl, by simpa [symB, flagB, List.append_assoc] using P9.out.own, grow_trans (keep_grow K0.out _) (.inl rfl) P9.out.grown, OwnTo.trans K0.out.size (.inl rfl) P9.out.to⟩
set_option maxHeartbeats 4000000 in
set_option maxRecDepth 100000 in
theorem prelB_aux (B : Nat) (v : Value) (xs : List Nat) (k n m : Nat) (cp nm : ByteArray) (hk : k < 256) (hc : cp.size ≤ 255) (hs : nm.size ≤ 255) (hn : n < 4294967296) (hm : m < 65536) (few : xs.length ≤ 500000) (w : World) (hB : B ≤ w.heap.size) (h : Own8 w B v xs) :
    Calls Tryd.prog 23 #[v, .agg #[.int .i64 (k : Int), .int .u32 (n : Int), .string cp, .string nm, .int .u16 (m : Int)]] w (PutR w B v (xs ++ relB ⟨k, n, cp, nm, m⟩)) := by
  obtain ⟨i0, hi0, hz0, hz1, hz2⟩ := oinfo_parts infoU8
  obtain ⟨W0, hW0⟩ : ∃ W0, W0 = w.alloc (.cells #[.int .i64 (k : Int), .int .u32 (n : Int), .string cp, .string nm, .int .u16 (m : Int)] 49) := ⟨_, rfl⟩
  have K0 : Hid (Keep w W0) := Lib.hid (by rw [hW0]; exact (Keep.refl _).alloc _)
  have BS : Hid (Box W0 w.heap.size #[.int .i64 (k : Int), .int .u32 (n : Int), .string cp, .string nm, .int .u16 (m : Int)]) := Lib.hid (by rw [hW0]; exact Box.new _ _ _)
  have NB : ∀ g, v.ownBlock = some g → g < w.heap.size := fun g hg => (h.lt g hg).2
  have P : Hid (PutAt W0 B v.ownBlock v xs W0) := Lib.hid ⟨owns_keep h K0.out, grow_refl _ _, .inl rfl⟩
  have NS := Lib.hid (show v.ownBlock ≠ some w.heap.size from fun e => by have := NB _ e; omega)
  have hB0 : B ≤ W0.heap.size := Nat.le_trans hB K0.out.size
  have sl : (strB nm).length = nm.size + 1 := by simp [strB]
  have sc : (strB cp).length = cp.size + 1 := by simp [strB]
  have wk : IntKind.u8.wrap (k : Int) = (k : Int) := by rw [IntKind.wrap_u8]; omega
  have wm : IntKind.u32.wrap (m : Int) = (m : Int) := IntWalk.u32_in _ (by omega)
  clear h
  go_enter Tryd.func23, Tryd.ntmps23
  go_wp2_with fail
  rw [← hW0]
  clear hW0
  refine Rel.regionO (KeepBut (fun z => v.ownBlock = some z ∨ W0.heap.size ≤ z)) (butWay _) [4, 5, 8] [0, 1, 2, 3, 6, 7, 4, 5, 8, 9] (by kernel_rfl) (by kernel_rfl) (Keep.refl _) ?_
  repeat (apply Rel.ordK_step (by rfl) (by rfl) (by rfl)
          · intro W' hW'
            have cS := (BS.out.but hW' (by rintro (e | e); exact NS.out e; have := BS.out.lt; omega)).cells
            go_simp
            exact ⟨rfl, Keep.refl _⟩
          go_simp)
  apply Rel.ordK_loose (by rfl) (by rfl) (by rfl)
  intro W2 h2
  go_simp
  apply Rel.gives_value
  refine ⟨((Keep.refl _).alloc _).but _, ?_⟩
  have PP := Lib.hid (P.out.keep (h2.alloc (.cells #[.int .u8 (k : Int)] 5)))
  have BB := Lib.hid (Box.new W2 #[.int .u8 (k : Int)] 5)
  obtain ⟨gb, hgb⟩ : ∃ gb, gb = W2.heap.size := ⟨_, rfl⟩
  have GS : W0.heap.size ≤ gb := by rw [hgb]; exact (P.out.keep h2).grown.size
  rw [← hgb] at BB ⊢
  obtain ⟨WB, hWB⟩ : ∃ WB, WB = W2.alloc (.cells #[.int .u8 (k : Int)] 5) := ⟨_, rfl⟩
  rw [← hWB] at PP BB ⊢
  clear hWB hgb h2 P
  have P := PP
  clear PP
  go_simp
  apply Rel.ordK_loose (by rfl) (by rfl) (by rfl)
  intro W4 h4
  have P4 := Lib.hid (P.out.keep h4)
  have B4 := BB.out.keep h4
  refine gives_append_src W4 (.tmp 5) (.tmp 9) 22 22 rfl B 5 i0 _ 1 1 Tryd.underlying22 hi0 hz0 hz1 hz2 rfl _ _ _ rfl P4.out.own (.slice (some ⟨gb, 0, none⟩) 1 1) 1 [.int .u8 (k : Int)] rfl (Src.ofSlice W4 Tryd.underlying22 _ 1 1 _ rfl (fun j u hj => by match j, hj with | 0, hj => simp at hj; subst hj; simp [Addr.add, B4.cells] | j + 1, hj => simp at hj) (fun u hu => by simp at hu; subst hu; rfl)) (by unfold maxLen; simp; omega) (by simp; omega) (by have := P4.out.grown.size; omega) ?_
  intro v5 V5 o5 g5 b5
  refine ⟨P4.out.but g5, ?_⟩
  have PP := Lib.hid (P4.out.next (append_own (y := k) o5 rfl rfl) g5 b5)
  clear o5 g5 b5 h4 B4 P4 P
  have P := PP
  clear PP
  go_simp
  apply Rel.ordK_loose (by rfl) (by rfl) (by rfl)
  intro W6 h6
  have P6 := Lib.hid (P.out.keep h6)
  go_simp
  apply Rel.gives_enter
  go_at_call 21
  refine (pnum_any B _ _ n hn (by simp; omega) W6 (by have := P6.out.grown.size; omega) P6.out.own).mono ?_
  rintro e w7 ⟨v7, rfl, o7, g7, b7⟩
  refine ⟨_, rfl, P6.out.but g7, ?_⟩
  have PP := Lib.hid (P6.out.next o7 g7 b7)
  clear o7 g7 b7 h6 P6 P
  have P := PP
  clear PP
  go_simp
  apply Rel.ordK_step (by rfl) (by rfl) (by rfl)
  · intro W' hW'
    go_simp
    exact ⟨rfl, Keep.refl _⟩
  go_simp
  apply Rel.ordK_end
  intro W9 h9
  have P9 := Lib.hid (P.out.keep h9)
  clear P h9
  have BS9 := Lib.hid (P9.out.box BS.out NS.out)
  have bs9 := BS9.out.lt
  go_wp2_with fail
  have P := P9
  clear P9
  refine Rel.regionO (KeepBut (fun z => v.ownBlock = some z ∨ W0.heap.size ≤ z)) (butWay _) [3, 6] [0, 1, 2, 4, 5, 3, 6, 7] (by kernel_rfl) (by kernel_rfl) (Keep.refl _) ?_
  repeat (apply Rel.ordK_step (by rfl) (by rfl) (by rfl)
          · intro W' hW'
            have cS := (BS9.out.but hW' (by rintro (e | e); exact NS.out e; have := BS.out.lt; omega)).cells
            go_simp
            exact ⟨rfl, Keep.refl _⟩
          go_simp)
  apply Rel.ordK_loose (by rfl) (by rfl) (by rfl)
  intro W6 h6
  have P6 := Lib.hid (P.out.keep h6)
  go_simp
  apply Rel.gives_enter
  go_at_call 19
  refine (ptext_any B _ _ cp hc (by simp [num4]; omega) W6 (by have := P6.out.grown.size; omega) P6.out.own).mono ?_
  rintro e w7 ⟨v7, rfl, o7, g7, b7⟩
  refine ⟨_, rfl, P6.out.but g7, ?_⟩
  have PP := Lib.hid (P6.out.next o7 g7 b7)
  clear o7 g7 b7 h6 P6 P
  have P := PP
  clear PP
  go_simp
  apply Rel.ordK_loose (by rfl) (by rfl) (by rfl)
  intro W6 h6
  have P6 := Lib.hid (P.out.keep h6)
  go_simp
  apply Rel.gives_enter
  go_at_call 19
  refine (ptext_any B _ _ nm hs (by simp [num4, sc]; omega) W6 (by have := P6.out.grown.size; omega) P6.out.own).mono ?_
  rintro e w7 ⟨v7, rfl, o7, g7, b7⟩
  refine ⟨_, rfl, P6.out.but g7, ?_⟩
  have PP := Lib.hid (P6.out.next o7 g7 b7)
  clear o7 g7 b7 h6 P6 P
  have P := PP
  clear PP
  go_simp
  apply Rel.ordK_step (by rfl) (by rfl) (by rfl)
  · intro W' hW'
    go_simp
    exact ⟨rfl, Keep.refl _⟩
  go_simp
  apply Rel.ordK_end
  intro W9 h9
  have P9 := Lib.hid (P.out.keep h9)
  clear P h9
  have cS := (P9.out.box BS.out NS.out).cells
  have CN := Lib.hid (pnum_any B _ _ m (by omega) (by simp [num4, sl, sc]; omega) W9 (by have := P9.out.grown.size; omega) P9.out.own)
  go_wp2_with fail
  refine CN.out.mono ?_
  rintro e w7 ⟨v7, rfl, o7, g7, b7⟩
  have PP := Lib.hid (P9.out.next o7 g7 b7)
  clear o7 g7 b7 CN
  go_wp2_with fail
  go_ret
  exact ⟨_, rfl, by simpa [relB, List.append_assoc] using PP.out.own, grow_trans (keep_grow K0.out _) (.inl rfl) PP.out.grown, OwnTo.trans K0.out.size (.inl rfl) PP.out.to⟩
end Go.Proofs.YtahnbeoacdnhjaaDoor

/- The program's Encode. -/
namespace Go.Proofs.YtahnbeoacdnhjaaDoor
set_option linter.unusedVariables false
set_option linter.unusedSimpArgs false
open Go Go.RowKit
theorem psymB_any (B : Nat) (v : Value) (xs : List Nat) (s : SymV) (ho : SymOk s) (hs : s.name.size ≤ 255) (few : xs.length ≤ 500000) (w : World) (hB : B ≤ w.heap.size) (h : Own8 w B v xs) :
    Calls Tryd.prog 22 #[v, .agg #[.string s.name, .bool s.data, .int .u32 s.off, .bool s.exp]] w (PutR w B v (xs ++ symB s)) := by
  obtain ⟨nm, d, o, x⟩ := s
  obtain ⟨h0, h1⟩ := ho
  dsimp only at h0 h1 hs ⊢
  obtain ⟨n, rfl⟩ : ∃ n : Nat, o = (n : Int) := ⟨o.toNat, by omega⟩
  exact psymB_aux B v xs nm d x n hs (by omega) few w hB h
theorem prelB_any (B : Nat) (v : Value) (xs : List Nat) (r : RelV) (hk : 0 ≤ r.kind ∧ r.kind < 256) (ho : 0 ≤ r.off ∧ r.off < 4294967296) (hp : 0 ≤ r.perm ∧ r.perm < 65536) (hc : r.comp.size ≤ 255) (hs : r.name.size ≤ 255) (few : xs.length ≤ 500000) (w : World) (hB : B ≤ w.heap.size) (h : Own8 w B v xs) :
    Calls Tryd.prog 23 #[v, .agg #[.int .i64 r.kind, .int .u32 r.off, .string r.comp, .string r.name, .int .u16 r.perm]] w (PutR w B v (xs ++ relB r)) := by
  obtain ⟨k, o, c, nm, p⟩ := r
  dsimp only at hk ho hp hc hs ⊢
  obtain ⟨n, rfl⟩ : ∃ n : Nat, o = (n : Int) := ⟨o.toNat, by omega⟩
  obtain ⟨q, rfl⟩ : ∃ q : Nat, k = (q : Int) := ⟨k.toNat, by omega⟩
  obtain ⟨m, rfl⟩ : ∃ m : Nat, p = (m : Int) := ⟨p.toNat, by omega⟩
  exact prelB_aux B v xs q n m c nm (by omega) hc hs (by omega) (by omega) few w hB h
/-- Where the writing of an object stands. -/
def EncAt (W1 W : World) (v : Value) (xs : List Nat) : Prop := Own8 W W1.heap.size v xs ∧ Keep W1 W
theorem EncAt.put {W1 W W' : World} {v : Value} {xs ys : List Nat} {e : Ending} (h : EncAt W1 W v xs) (p : PutR W W1.heap.size v ys e W') : ∃ v', e = .returned v' ∧ EncAt W1 W' v' ys := by
  obtain ⟨v', rfl, h1, h2, _⟩ := p
  exact ⟨v', rfl, h1, grow_keep0 h.2 h2 (fun g hg => (h.1.lt g hg).1)⟩
theorem EncAt.keep {W1 W W' : World} {v : Value} {xs : List Nat} (h : EncAt W1 W v xs) (k : Keep W W') : EncAt W1 W' v xs := ⟨owns_keep h.1 k, h.2.trans k⟩
/-- The literal that an object begins with, marked. -/
def headW (W1 : World) : World := W1.alloc (.cells #[.int .u8 72, .int .u8 79, .int .u8 66, .int .u8 74] 5 (4, 5))
theorem headW_keep (W1 : World) : Keep W1 (headW W1) := (Keep.refl _).alloc _
theorem headW_cells (W1 : World) : ∀ j u, (hobj.map byteV)[j]? = some u → (headW W1).cell? ⟨W1.heap.size, j, none⟩ = some u := fun j u hj => by
  have h : (headW W1).heap[W1.heap.size]? = some (.cells #[.int .u8 72, .int .u8 79, .int .u8 66, .int .u8 74] 5 (4, 5)) := heap_alloc_new _ _
  simp only [World.cell?, h]
  rw [← hj]
  match j with
  | 0 => rfl
  | 1 => rfl
  | 2 => rfl
  | 3 => rfl
  | j + 4 => rfl
theorem headW_conv (W1 : World) : (convert 22 22 (.slice (some ⟨W1.heap.size, 0, none⟩) 4 4)).run Tryd.prog (W1.alloc (.cells #[.int .u8 72, .int .u8 79, .int .u8 66, .int .u8 74] 5)) = .ok (.slice (some ⟨W1.heap.size, 0, none⟩) 4 4) (headW W1) :=
  Lib.run_convert_bytes_const W1 22 5 _ 4 4 Tryd.underlying22 Tryd.underlying5
theorem EncAt.slice {W1 W : World} {v : Value} {xs : List Nat} (h : EncAt W1 W v xs) (hl : xs.length ≤ 1000000) : ∃ p cap, v = .slice p xs.length cap ∧ SlAt W v xs.length (xs.map byteV) := by
  obtain ⟨p, cap, rfl, h1, h2, h3⟩ := owns_cells h.1 (by unfold maxLen; omega)
  refine ⟨p, cap, rfl, p, cap, rfl, h1, h2, ?_⟩
  rcases h3 with h3 | ⟨b, rfl, _, hb, hc⟩
  · exact .inl h3
  · exact .inr ⟨b, 0, rfl, hb, hc⟩
theorem len_take_flat {α : Type} (f : α → List Nat) (l : List α) (k : Nat) : ((l.take k).flatMap f).length ≤ (l.flatMap f).length := by
  have e : (l.flatMap f).length = ((l.take k).flatMap f).length + ((l.drop k).flatMap f).length := by
    rw [← List.length_append, ← List.flatMap_append, List.take_append_drop]
  omega
theorem take_flatN {α : Type} (f : α → List Nat) (l : List α) (k : Nat) (t : α) (h : l[k]? = some t) : (l.take (k + 1)).flatMap f = (l.take k).flatMap f ++ f t := by
  obtain ⟨hk, rfl⟩ := List.getElem?_eq_some_iff.1 h
  rw [List.take_succ_eq_append_getElem hk, List.flatMap_append]
  simp
def encP1 (o : ObjV) : List Nat := hobj ++ strB o.name
def encP2 (o : ObjV) : List Nat := encP1 o ++ (num4 o.code.length ++ o.code)
def encP3 (o : ObjV) : List Nat := encP2 o ++ (num4 o.data.length ++ o.data)
def encP4 (o : ObjV) : List Nat := encP3 o ++ num4 o.syms.length
def encP5 (o : ObjV) : List Nat := encP4 o ++ o.syms.flatMap symB
def encP6 (o : ObjV) : List Nat := encP5 o ++ num4 o.rels.length
theorem encP7 (o : ObjV) : encL o = encP6 o ++ o.rels.flatMap relB := by
  unfold encL encP6 encP5 encP4 encP3 encP2 encP1
  simp [List.append_assoc]
/-- How long they are. -/
theorem enc_lens {o : ObjV} (h : (encL o).length ≤ 20000) : (encP1 o).length ≤ 20000 ∧ (encP2 o).length ≤ 20000 ∧ (encP3 o).length ≤ 20000 ∧ (encP4 o).length ≤ 20000 ∧ (encP5 o).length ≤ 20000 ∧ (encP6 o).length ≤ 20000 := by
  have e := congrArg List.length (encP7 o)
  unfold encP6 encP5 encP4 encP3 encP2 at e ⊢
  simp only [List.length_append] at e ⊢
  omega
/-- What Encode answers. -/
def EncR (o : ObjV) (w : World) (e : Ending) (w' : World) : Prop := Keep w w' ∧ ∃ p n cap u, e = .returned (.tuple #[.slice p n cap, u]) ∧ OErr w' u (objW o) ∧ ((objW o).2.2 = 0 → n = (encL o).length ∧ SlAt w' (.slice p n cap) n ((encL o).map byteV))
theorem EncR.bad {o : ObjV} {w w' : World} {u : Value} (k : Keep w w') (h : OErr w' u (objW o)) (hz : (objW o).2.2 ≠ 0) : EncR o w (.returned (.tuple #[.slice none 0 0, u])) w' := ⟨k, none, 0, 0, u, rfl, h, fun e => absurd e hz⟩
theorem EncR.fine {o : ObjV} {w W1 w' : World} {v : Value} (k : Keep w W1) (h : EncAt W1 w' v (encL o)) (hl : (encL o).length ≤ 1000000) (ho : OErr w' .nilIface (objW o)) : EncR o w (.returned (.tuple #[v, .nilIface])) w' := by
  obtain ⟨p, cap, rfl, hs⟩ := h.slice hl
  exact ⟨k.trans h.2, p, _, cap, _, rfl, ho, fun _ => ⟨rfl, hs⟩⟩
theorem OErr.keep {w w' : World} {u : Value} {x : WrV} (h : OErr w u x) (k : Keep w w') : OErr w' u x := ErrV.keep h k
set_option maxHeartbeats 4000000 in
set_option maxRecDepth 100000 in
theorem oEncode_aux (o : ObjV) (vc vd vs vr : Value) (w : World) (h : ObjAt w o vc vd vs vr) (ho : ObjNum o) (hf : ObjFew o) (hp : ErrT w) : Calls Tryd.prog 8 #[objVal o vc vd vs vr] w (EncR o w) := by
  have HO := Lib.hid h
  have HN := Lib.hid ho
  have HF := Lib.hid hf
  obtain ⟨W0, hW0⟩ : ∃ W0, W0 = w.alloc (.cells #[.string o.name, vc, vd, vs, vr] 26) := ⟨_, rfl⟩
  have K0 : Hid (Keep w W0) := Lib.hid (by rw [hW0]; exact (Keep.refl _).alloc _)
  have BO : Hid (Box W0 w.heap.size #[.string o.name, vc, vd, vs, vr]) := Lib.hid (by rw [hW0]; exact Box.new _ _ _)
  have CC := Lib.hid (pcheckO_any o vc vd vs vr W0 (h.keep K0.out) hf.mid ho (hp.keep K0.out))
  obtain ⟨pc, cc, rfl, _, _, _⟩ := h.code
  obtain ⟨pd, cd, rfl, _, _, _⟩ := h.data
  obtain ⟨ps, cs, rfl, _, _⟩ := h.symsAt
  obtain ⟨pr, cr, rfl, _, _⟩ := h.relsAt
  unfold objVal at CC ⊢
  clear h ho hf hp
  go_enter Tryd.func8, Tryd.ntmps8
  go_wp2_with fail
  rw [← hW0]
  clear hW0
  have co := BO.out.cells
  go_wp2_with fail
  refine CC.out.mono ?_
  rintro e W1 ⟨u, rfl, hu, hk⟩
  have HU := Lib.hid hu
  have K1 := Lib.hid (K0.out.trans hk)
  have BO1 := Lib.hid (BO.out.keep hk)
  clear hk co CC BO K0
  by_cases z : (objW o).2.2 = 0
  rotate_left
  · obtain ⟨q, rfl⟩ := hu.bad z
    have Z := Lib.hid z
    clear hu z
    unfold faultP
    go_wp2_with fail
    go_ret2
    exact EncR.bad K1.out HU.out Z.out
  obtain rfl : u = .nilIface := hu.good z
  have OK := Lib.hid (objW_ok z HN.out.syms HN.out.rels)
  have EL := Lib.hid (encL_lt HN.out OK.out HF.out)
  clear hu z
  have co := BO1.out.cells
  have cvs := headW_conv W1
  have co := (BO1.out.keep (headW_keep W1)).cells
  have LN := Lib.hid (enc_lens EL.out.2.1)
  have hnm := HF.out.name
  have wc : IntKind.u32.wrap (o.syms.length : Int) = (o.syms.length : Int) := IntWalk.u32_in _ (by have := HF.out.syms; omega)
  have wd : IntKind.u32.wrap (o.rels.length : Int) = (o.rels.length : Int) := IntWalk.u32_in _ (by have := HF.out.rels; omega)
  go_wp2_with fail
  refine (ptextF_any W1.heap.size W1.heap.size hobj o.name (by omega) (by decide) _ (headW_keep W1).size (by unfold headW; simp) (headW_cells W1)).mono ?_
  rintro e w2 ⟨v2, rfl, h2, hk2⟩
  have E2 : Hid (EncAt W1 w2 v2 (encP1 o)) := Lib.hid ⟨h2, (headW_keep W1).trans hk2⟩
  clear hk2 h2 co
  have co := (BO1.out.keep E2.out.2).cells
  go_wp2_with fail
  refine (psecB_any W1 W1.heap.size _ _ (encP1 o) o.code (by have := HF.out.code; omega) (by have := LN.out.1; omega) _ E2.out.2.size E2.out.1 E2.out.2 (Nat.le_refl _) (HO.out.code.keep K1.out)).mono ?_
  intro e w3 hp
  obtain ⟨v3, rfl, h2⟩ := E2.out.put hp
  have E3 : Hid (EncAt W1 w3 v3 (encP2 o)) := Lib.hid h2
  clear hp h2 co
  have co := (BO1.out.keep E3.out.2).cells
  go_wp2_with fail
  refine (psecB_any W1 W1.heap.size _ _ (encP2 o) o.data (by have := HF.out.data; omega) (by have := LN.out.2.1; omega) _ E3.out.2.size E3.out.1 E3.out.2 (Nat.le_refl _) (HO.out.data.keep K1.out)).mono ?_
  intro e w4 hp
  obtain ⟨v4, rfl, h2⟩ := E3.out.put hp
  have E4 : Hid (EncAt W1 w4 v4 (encP3 o)) := Lib.hid h2
  clear hp h2 co
  have co := (BO1.out.keep E4.out.2).cells
  go_wp2_with fail
  refine (pnum_any W1.heap.size _ (encP3 o) o.syms.length (by have := HF.out.syms; omega) (by have := LN.out.2.2.1; omega) _ E4.out.2.size E4.out.1).mono ?_
  intro e w5 hp
  obtain ⟨v5, rfl, h2⟩ := E4.out.put hp
  have E5 : Hid (EncAt W1 w5 v5 (encP4 o)) := Lib.hid h2
  clear hp h2 co
  have co := (BO1.out.keep E5.out.2).cells
  go_wp2_with fail
  clear co
  go_loopw [5, 7, 37] (fun b _ i wr => ∃ k : Nat, k ≤ o.syms.length ∧ i = .int .i64 (k : Int) ∧ EncAt W1 wr b (encP4 o ++ (o.syms.take k).flatMap symB)) (fun _ _ i _ => o.syms.length - (intOf i).toNat)
  case atStart => exact ⟨0, Nat.zero_le _, rfl, by simpa using E5.out⟩
  case round =>
    obtain ⟨k, hk, rfl, hE⟩ := hrel
    have HE := Lib.hid hE
    clear hE
    by_cases hlt : k < o.syms.length
    · obtain ⟨s, hs⟩ : ∃ s, o.syms[k]? = some s := ⟨_, List.getElem?_eq_getElem hlt⟩
      have hki : (k : Int) < (o.syms.length : Int) := by omega
      have fk : k + 1 ≤ 1000000 := by have := HF.out.syms; omega
      have HM := Lib.hid (List.mem_of_getElem? hs)
      obtain ⟨b, off, cap, e1, _, hb, n0, n1, n2, n3⟩ := (HO.out.keep (K1.out.trans HE.out.2)).sym hs
      simp only [Value.slice.injEq, true_and] at e1
      obtain ⟨rfl, rfl⟩ := e1
      have HT := Lib.hid (take_flatN symB o.syms k s hs)
      have KA : Hid (Keep wr (wr.alloc (.cells #[.string s.name, .bool s.data, .int .u32 s.off, .bool s.exp] 47))) := Lib.hid ((Keep.refl _).alloc _)
      have EA := Lib.hid (HE.out.keep KA.out)
      have FL := Lib.hid (len_take_flat symB o.syms k)
      have CP := Lib.hid (psymB_any W1.heap.size u5 (encP4 o ++ (o.syms.take k).flatMap symB) s (OK.out.syms s HM.out) (by have := HF.out.symN s HM.out; omega) (by rw [List.length_append]; have := FL.out; have := LN.out.2.2.2.2.1; unfold encP5 at this; simp only [List.length_append] at this; omega) _ EA.out.2.size EA.out.1)
      clear hs
      go_wp2_with fail
      refine CP.out.mono ?_
      intro e w2 hp
      obtain ⟨v2, rfl, h2⟩ := EA.out.put hp
      have HE2 := Lib.hid h2
      clear hp h2 CP
      go_wp2_with fail
      go_roundw
      case rel => exact ⟨k + 1, hlt, by go_num, by rw [HT.out]; simpa [List.append_assoc] using HE2.out⟩
      case measure => simp [intOf]; omega
    · obtain rfl : k = o.syms.length := by omega
      have E6 : Hid (EncAt W1 wr u5 (encP5 o)) := Lib.hid (by have h := HE.out; rw [List.take_length] at h; exact h)
      have co := (BO1.out.keep E6.out.2).cells
      go_wp2_with fail
      refine (pnum_any W1.heap.size _ (encP5 o) o.rels.length (by have := HF.out.rels; omega) (by have := LN.out.2.2.2.2.1; omega) _ E6.out.2.size E6.out.1).mono ?_
      intro e w6 hp
      obtain ⟨v6, rfl, h2⟩ := E6.out.put hp
      have E7 : Hid (EncAt W1 w6 v6 (encP6 o)) := Lib.hid h2
      clear hp h2 co
      have co := (BO1.out.keep E7.out.2).cells
      go_wp2_with fail
      clear co E6 HE
      go_loopw [5, 9, 54] (fun b _ i wr => ∃ k : Nat, k ≤ o.rels.length ∧ i = .int .i64 (k : Int) ∧ EncAt W1 wr b (encP6 o ++ (o.rels.take k).flatMap relB)) (fun _ _ i _ => o.rels.length - (intOf i).toNat)
      case atStart => exact ⟨0, Nat.zero_le _, rfl, by simpa using E7.out⟩
      case round =>
        obtain ⟨k, hk, rfl, hE⟩ := hrel
        have HE := Lib.hid hE
        clear hE
        by_cases hlt : k < o.rels.length
        · obtain ⟨s, hs⟩ : ∃ s, o.rels[k]? = some s := ⟨_, List.getElem?_eq_getElem hlt⟩
          have hki : (k : Int) < (o.rels.length : Int) := by omega
          have fk : k + 1 ≤ 1000000 := by have := HF.out.rels; omega
          have HM := Lib.hid (List.mem_of_getElem? hs)
          obtain ⟨b, off, cap, e1, _, hb, n0, n1, n2, n3, n4⟩ := (HO.out.keep (K1.out.trans HE.out.2)).rel hs
          simp only [Value.slice.injEq, true_and] at e1
          obtain ⟨rfl, rfl⟩ := e1
          have HT := Lib.hid (take_flatN relB o.rels k s hs)
          have KA : Hid (Keep wr (wr.alloc (.cells #[.int .i64 s.kind, .int .u32 s.off, .string s.comp, .string s.name, .int .u16 s.perm] 49))) := Lib.hid ((Keep.refl _).alloc _)
          have EA := Lib.hid (HE.out.keep KA.out)
          have FL := Lib.hid (len_take_flat relB o.rels k)
          have CP := Lib.hid (prelB_any W1.heap.size u5 (encP6 o ++ (o.rels.take k).flatMap relB) s (by have := OK.out.rels s HM.out; unfold RelOk at this; omega) (HN.out.rels s HM.out |> fun h => ⟨h.1, h.2.1⟩) (HN.out.rels s HM.out |> fun h => ⟨h.2.2.1, h.2.2.2⟩) (by have := HF.out.relC s HM.out; omega) (by have := HF.out.relN s HM.out; omega) (by rw [List.length_append]; have := FL.out; have := LN.out.2.2.2.2.2; unfold encP6 at this; have e7 := congrArg List.length (encP7 o); rw [List.length_append] at e7; have := EL.out.2.1; unfold encP6 at *; omega) _ EA.out.2.size EA.out.1)
          clear hs
          go_wp2_with fail
          refine CP.out.mono ?_
          intro e w2 hp
          obtain ⟨v2, rfl, h2⟩ := EA.out.put hp
          have HE2 := Lib.hid h2
          clear hp h2 CP
          go_wp2_with fail
          go_roundw
          case rel => exact ⟨k + 1, hlt, by go_num, by rw [HT.out]; simpa [List.append_assoc] using HE2.out⟩
          case measure => simp [intOf]; omega
        · obtain rfl : k = o.rels.length := by omega
          have E8 : Hid (EncAt W1 wr u5 (encL o)) := Lib.hid (by have h := HE.out; rw [List.take_length] at h; rw [encP7]; exact h)
          go_wp2_with fail
          go_ret2
          exact EncR.fine K1.out E8.out (by have := EL.out.2.1; omega) (HU.out.keep E8.out.2)
theorem oEncode : PObjEncode ErrT := fun o vc vd vs vr w h ho hf hp => oEncode_aux o vc vd vs vr w h ho hf hp
end Go.Proofs.YtahnbeoacdnhjaaDoor
