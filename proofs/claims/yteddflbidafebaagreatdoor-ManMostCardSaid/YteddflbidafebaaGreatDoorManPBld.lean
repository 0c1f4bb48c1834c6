/- A strings.Builder as it lies; WriteString, whose frame is told block by block; a line that is put. -/
import Derived.Test.YteddflbidafebaaGreatDoorManPRoom
import Derived.Test.YteddflbidafebaaGreatDoorGRows
import Derived.Test.YteddflbidafebaaGreatDoorShelf
import Derived.Lib.Builder
import Derived.Lib.AppendStr
import Derived.Lib.Join
namespace Go.Proofs.YteddflbidafebaaGreatDoor
set_option linter.unusedVariables false
set_option linter.unusedSimpArgs false
open Go.RowKit Go.Shelf
/-- A builder at block b that holds the bytes l; v: its buffer. -/
structure BL (w : World) (B b : Nat) (v : Value) (l : List UInt8) : Prop where
  le : B ≤ b
  cells : ∃ p, (p = Value.pointer none ∨ p = Value.pointer (some ⟨b, 0, none⟩)) ∧ w.heap[b]? = some (.cells #[p, v] 66 (0, 0))
  own : w.ownsRow B 5 1 v l.length (Lib.byteCells l)
  ne : v.ownBlock ≠ some b
theorem BL.lt {w : World} {B b : Nat} {v : Value} {l : List UInt8} (h : BL w B b v l) : b < w.heap.size := by
  obtain ⟨p, _, h2⟩ := h.cells
  exact (Array.getElem?_eq_some_iff.1 h2).1
theorem BL.keep {w w' : World} {B b : Nat} {v : Value} {l : List UInt8} (h : BL w B b v l) (k : Keep w w') : BL w' B b v l := by
  obtain ⟨p, h1, h2⟩ := h.cells
  exact ⟨h.le, ⟨p, h1, by rw [Below.block k b h.lt]; exact h2⟩, owns_keep h.own k, h.ne⟩
theorem BL.is {w : World} {B b : Nat} {v : Value} {l : List UInt8} (h : BL w B b v l) : Lib.IsBuilder 66 5 B b (Lib.byteCells l) w := by
  obtain ⟨p, h1, h2⟩ := h.cells
  have ho := h.own
  have e : l.length = (Lib.byteCells l).length := (Lib.byteCells_length l).symm
  rw [e] at ho
  rcases h1 with rfl | rfl
  · exact .inl ⟨h.le, v, h2, ho, h.ne⟩
  · exact .inr ⟨h.le, v, h2, ho, h.ne⟩
/-- The blocks that a write may change. -/
def BLs (b : Nat) (v : Value) : Nat → Prop := fun z => z = b ∨ v.ownBlock = some z
theorem ubInfo : (Tryz.prog.info? 5).map (fun i => (i.zero, i.size, i.bytes)) = some (some (.int .u8 0), 1, 1) := by kernel_rfl
theorem mcopy_any (B b : Nat) (v : Value) (l : List UInt8) (w : World) (h : BL w B b v l) :
    Calls Tryz.prog 36 #[.pointer (some ⟨b, 0, none⟩)] w fun e w' => e = .returned (.tuple #[]) ∧ w'.heap[b]? = some (.cells #[.pointer (some ⟨b, 0, none⟩), v] 66 (0, 0)) ∧ w'.ownsRow B 5 1 v l.length (Lib.byteCells l) ∧ KeepBut (BLs b v) w w' := by
  obtain ⟨p, h1, h2⟩ := h.cells
  rcases h1 with rfl | rfl
  · have hb : Lib.BuilderAt 66 5 B b (.pointer none) (Lib.byteCells l) w := by
      have ho := h.own
      rw [(Lib.byteCells_length l).symm] at ho
      exact ⟨h.le, v, h2, ho, h.ne⟩
    refine (Any.Builder_copyCheck_fresh (P := Tryz.prog) (ρ := Tryz.lays156_ren) { Tryz.lays156 with } Tryz.Builder_Extra_156.toX72 b w hb.cell0 hb.shape hb.frozen0).mono ?_
    rintro e w' ⟨rfl, rfl⟩
    obtain ⟨_, v2, g1, g2, _⟩ := hb.used (.pointer (some ⟨b, 0, none⟩))
    have g3 : (w.setCell ⟨b, 0, none⟩ (.pointer (some ⟨b, 0, none⟩))).heap[b]? = some (.cells #[.pointer (some ⟨b, 0, none⟩), v] 66 (0, 0)) := by
      simp [World.setCell, Array.getElem?_modify, h2]
    obtain rfl : v2 = v := by
      rw [g3] at g1
      simpa using g1.symm
    rw [Lib.byteCells_length] at g2
    exact ⟨rfl, g3, g2, (KeepBut.refl _ _).setCell (.inl (.inl rfl)) _⟩
  · refine (Any.Builder_copyCheck_used (P := Tryz.prog) (ρ := Tryz.lays156_ren) { Tryz.lays156 with } Tryz.Builder_Extra_156.toX72 b w (by simp [World.cell?, h2])).mono ?_
    rintro e w' ⟨rfl, rfl⟩
    exact ⟨rfl, h2, h.own, KeepBut.refl _ _⟩
set_option maxHeartbeats 4000000 in
set_option maxRecDepth 100000 in
theorem mwrite_any (B b : Nat) (v : Value) (l : List UInt8) (s : ByteArray) (w : World) (h : BL w B b v l) (hlen : l.length + s.size ≤ 1000000000) (hBw : B ≤ w.heap.size) :
    Calls Tryz.prog 18 #[.pointer (some ⟨b, 0, none⟩), .string s] w fun e w' => (∃ r, e = .returned r) ∧ ∃ v', BL w' B b v' (l ++ s.data.toList) ∧ KeepBut (BLs b v) w w' := by
  obtain ⟨i0, hi, hz0, hz1, hz2⟩ := info_parts ubInfo
  have C := Lib.hid (mcopy_any B b v l w h)
  have hB := h.le
  have hne := h.ne
  clear h
  go_enter Tryz.func18, Tryz.ntmps18
  go_wp2_with fail
  refine C.out.mono ?_
  rintro e w1 ⟨rfl, hbk, hown, hk⟩
  have HK := Lib.hid hk
  clear hk C
  have c0 : w1.cell? ⟨b, 0, none⟩ = some (.pointer (some ⟨b, 0, none⟩)) := by simp [World.cell?, hbk]
  have c1 : w1.cell? ⟨b, 1, none⟩ = some v := by simp [World.cell?, hbk]
  go_wp2_with (at_builtin; refine Lib.wpList_append_own_string _ rfl _ _ 25 9 rfl B 5 i0 Tryz.underlying25 Tryz.underlying9 hi hz0 hz1 hz2 _ _ _ rfl hown s rfl ?c3 ?c4 ?c5 ?_)
  case c3 => unfold maxLen; omega
  case c4 => omega
  case c5 => have := HK.out.size; omega
  intro v' w2 hown' hgrow _
  have hlt : b < w1.heap.size := (Array.getElem?_eq_some_iff.1 hbk).1
  have hb2 : w2.heap[b]? = some (.cells #[.pointer (some ⟨b, 0, none⟩), v] 66 (0, 0)) := by
    rw [hgrow.block b hlt (fun e => hne e.symm)]
    exact hbk
  have d0 : w2.cell? ⟨b, 0, none⟩ = some (.pointer (some ⟨b, 0, none⟩)) := by simp [World.cell?, hb2]
  have d1 : w2.cell? ⟨b, 1, none⟩ = some v := by simp [World.cell?, hb2]
  have f1 : w2.frozen? ⟨b, 1, none⟩ = false := by simp [World.frozen?, hb2]
  obtain ⟨ao, n', cap, rfl⟩ : ∃ ao n' cap, v' = .slice ao n' cap := by
    rcases hown'.2 with ⟨hv, _⟩ | ⟨g, cap, cur, hv, _⟩
    · exact ⟨_, _, _, hv⟩
    · exact ⟨_, _, _, hv⟩
  have KG : KeepBut (BLs b v) w1 w2 := by
    refine ⟨hgrow.os, hgrow.tape, hgrow.output, hgrow.size, fun k hk hs => ?_⟩
    exact hgrow.block k hk (fun e => hs (.inr e.symm))
  have ecs : Lib.byteCells l ++ Lib.strCells s = Lib.byteCells (l ++ s.data.toList) := by
    rw [Lib.strCells_eq, Lib.byteCells_append]
  have hP := Lib.BuilderAt.put (T := 66) (e := 5) (p := .pointer (some ⟨b, 0, none⟩)) hB hb2 (bs' := Lib.byteCells l ++ Lib.strCells s) (by simpa [Lib.strCells_length, Lib.byteCells_length] using hown') (by decide)
  rw [ecs] at hP
  have HP := Lib.hid hP
  have KG2 := Lib.hid KG
  clear hP KG ecs hown'
  go_wp2_with fail
  go_ret2
  refine ⟨⟨_, rfl⟩, .slice ao n' cap, ?_, HK.out.trans (KeepBut.setAt (.inl (show BLs b v b from .inl rfl)) KG2.out _)⟩
  obtain ⟨q1, v2, q2, q3, q4⟩ := HP.out
  obtain rfl : v2 = .slice ao n' cap := by
    have : (w2.setCell ⟨b, 1, none⟩ (.slice ao n' cap)).heap[b]? = some (.cells #[.pointer (some ⟨b, 0, none⟩), .slice ao n' cap] 66 (0, 0)) := by
      simp [World.setCell, Array.getElem?_modify, hb2]
    rw [this] at q2
    simpa using q2.symm
  rw [Lib.byteCells_length] at q3
  exact ⟨q1, ⟨_, .inr rfl, q2⟩, q3, q4⟩
/-- The words of a line, blanks between, an end. -/
def lineT (xs : List ByteArray) : List UInt8 := Lib.join (xs.map (·.data.toList)) [32] ++ [10]
set_option maxHeartbeats 4000000 in
set_option maxRecDepth 100000 in
theorem mput_any (B b : Nat) (v : Value) (l : List UInt8) (bk n : Nat) (x0 : ByteArray) (xs : List ByteArray) (hn : n = (x0 :: xs).length) (w : World) (h : BL w B b v l) (hBw : B ≤ w.heap.size)
    (hcells : ∀ (j : Nat) x, (x0 :: xs)[j]? = some x → w.cell? ⟨bk, j, none⟩ = some (.string x)) (hbk : bk < w.heap.size) (hN : n ≤ 10) (hlen : (lineT (x0 :: xs)).length ≤ 100000) (hl : l.length ≤ 10000000) :
    Calls Tryz.prog 17 #[.slice (some ⟨bk, 0, none⟩) n n, .pointer (some ⟨b, 0, none⟩)] w fun e w' => (∃ r, e = .returned r) ∧ ∃ v', BL w' B b v' (l ++ lineT (x0 :: xs)) ∧ KeepBut (BLs b v) w w' := by
  have HB := Lib.hid h
  subst hn
  have hl2 : (Lib.join ((x0 :: xs).map (·.data.toList)) [32]).length ≤ 100000 := by
    unfold lineT at hlen
    rw [List.length_append] at hlen
    omega
  have CJ := Lib.hid (Tryz.strings_Join bk 0 (x0 :: xs).length (x0 :: xs) ⟨#[32]⟩ w (fun j x hx => by rw [Nat.zero_add]; exact hcells j x hx) hbk (by omega) (Nat.le_refl _) (Nat.le_trans hl2 (by decide)))
  have EL : lineT (x0 :: xs) = (⟨(Lib.join ((x0 :: xs).map (·.data.toList)) [32]).toArray⟩ ++ ⟨#[10]⟩ : ByteArray).data.toList := by
    unfold lineT
    simp
  obtain ⟨jn, hjn⟩ : ∃ jn : ByteArray, jn = ⟨(Lib.join ((x0 :: xs).map (·.data.toList)) [32]).toArray⟩ := ⟨_, rfl⟩
  have hjs : jn.size ≤ 100000 := by
    rw [hjn]
    simpa [ByteArray.size] using hl2
  have CJ2 : Hid (Calls Tryz.prog 19 #[.slice (some ⟨bk, 0, none⟩) (x0 :: xs).length (x0 :: xs).length, .string ⟨#[32]⟩] w fun e w' => e = .returned (.string jn) ∧ Keep w w') := Lib.hid (by rw [hjn]; exact CJ.out)
  rw [← hjn] at EL
  rw [EL]
  have CW := Lib.hid (fun W (k : Keep w W) => mwrite_any B b v l (jn ++ ⟨#[10]⟩) W (HB.out.keep k) (by rw [ByteArray.size_append, show (⟨#[10]⟩ : ByteArray).size = 1 from rfl]; omega) (Nat.le_trans hBw k.size))
  obtain ⟨ln, hln⟩ : ∃ ln, ln = (x0 :: xs).length := ⟨_, rfl⟩
  rw [← hln] at CJ2 ⊢
  clear CJ hjn EL hcells hbk hN hlen h hl hl2 hBw hln
  go_enter Tryz.func17, Tryz.ntmps17
  go_wp2_with fail
  refine CJ2.out.mono ?_
  rintro e w1 ⟨rfl, hk⟩
  have CW1 := Lib.hid (CW.out w1 hk)
  have HK := Lib.hid hk
  clear hk CW CJ2
  go_wp2_with fail
  refine CW1.out.mono ?_
  rintro e w2 ⟨⟨r, rfl⟩, v', hb', hk2⟩
  have HB2 := Lib.hid hb'
  have HK2 := Lib.hid ((HK.out.but _).trans hk2)
  clear hb' hk2
  go_wp2_with fail
  go_end0
  exact ⟨⟨_, rfl⟩, v', HB2.out, HK2.out⟩
end Go.Proofs.YteddflbidafebaaGreatDoor
