/- An image as an argument: what lies there; by gen/img8.py. -/
import Derived.Test.YtmcbeclkocjlkaaDoorImgAt
import Derived.Test.YtmcbeclkocjlkaaDoorChecked
import Derived.ProofKit
import Derived.OpenShut
import Derived.WideKeyArgs
import Derived.ChangeSlices
import Derived.ChangeMaps5
import Derived.Deep.Slices
import Derived.Deep.Fields
namespace Go.Proofs.YtmcbeclkocjlkaaDoor
set_option linter.unusedVariables false
set_option linter.unusedSimpArgs false
open Go.ChangeShapes Go.WideShapes Go.ChangeAt Go.RowKit Go.Deep
section
variable {H : Type} {enc : TypeId × Value → H} {W : World} {base : Nat}
theorem icImg : Tryd.prog.cellsOf 28 = 7 := by kernel_rfl
theorem icPart : Tryd.prog.cellsOf 39 = 8 := by kernel_rfl
theorem icSpan : Tryd.prog.cellsOf 36 = 2 := by kernel_rfl
theorem icInit : Tryd.prog.cellsOf 43 = 7 := by kernel_rfl
theorem icStr : Tryd.prog.cellsOf 9 = 1 := by kernel_rfl
theorem icBool : Tryd.prog.cellsOf 4 = 1 := by kernel_rfl
theorem icInt : Tryd.prog.cellsOf 3 = 1 := by kernel_rfl
theorem icU8 : Tryd.prog.cellsOf 5 = 1 := by kernel_rfl
theorem icU16 : Tryd.prog.cellsOf 29 = 1 := by kernel_rfl
theorem icU32 : Tryd.prog.cellsOf 22 = 1 := by kernel_rfl
theorem icBytes : Tryd.prog.cellsOf 26 = 1 := by kernel_rfl
theorem icNums : Tryd.prog.cellsOf 37 = 1 := by kernel_rfl
theorem icParts : Tryd.prog.cellsOf 23 = 1 := by kernel_rfl
theorem icSpans : Tryd.prog.cellsOf 24 = 1 := by kernel_rfl
theorem icInits : Tryd.prog.cellsOf 25 = 1 := by kernel_rfl
set_option maxRecDepth 100000 in
theorem ibytes_cells {fuel : Nat} {cs : List Value} {x : DataW H × List MemPlace} (hf : DataW.trod enc Tryd.prog W base (fun _ => true) true fuel 26 cs = some x) :
    ∃ (v : Value) (xs : List Nat), cs = [v] ∧ SlAt W v xs.length (xs.map byteV) ∧ (∀ x ∈ xs, x < 256) ∧ xs.length ≤ maxLen := by
  rcases open_ints Tryd.underlying26 Tryd.underlying5 icU8 hf with ⟨hcs, _⟩ | ⟨a, len, cap, zs, hcs, _, hl, hm, hz, _, hcell, hwz⟩
  · exact ⟨_, [], hcs, ⟨none, 0, rfl, Nat.le_refl _, Nat.zero_le _, .inl rfl⟩, by simp, by simp⟩
  · simp only [if_true] at hz
    have hlt : ((zs.take len).map Int.toNat).length = len := by simp; omega
    refine ⟨_, (zs.take len).map Int.toNat, hcs, ⟨some a, cap, by rw [hlt], by rw [hlt]; omega, hm, ?_⟩, fun x hx => ?_, by rw [hlt]; omega⟩
    · by_cases h0 : len = 0
      · left; subst h0; simp
      · obtain ⟨b, off, spot⟩ := a
        have hc0 := hcell 0 (by omega)
        have hspot : spot = none := by simpa [Addr.add] using World.cell?_spot hc0
        subst hspot
        refine .inr ⟨b, off, rfl, World.block_lt_of_cell? _ _ hc0, fun i x hx => ?_⟩
        have hi : i < len := by have := (List.getElem?_eq_some_iff.1 hx).1; simp at this; omega
        have hc := hcell i (by omega)
        rw [Addr.add_lit] at hc
        rw [hc]
        have hzi : zs[i]? = some (zs.getD i 0) := by
          rw [List.getD_eq_getElem?_getD, List.getElem?_eq_getElem (by omega : i < zs.length)]; rfl
        have hxe : x = byteV (zs.getD i 0).toNat := by
          rw [List.getElem?_map, List.getElem?_map, List.getElem?_take, if_pos hi, hzi] at hx
          simpa using hx.symm
        have hbd := bounds_u8 (hwz _ (List.mem_of_getElem? hzi))
        rw [hxe]
        unfold byteV
        rw [Int.toNat_of_nonneg hbd.1]
    · simp only [List.mem_map] at hx
      obtain ⟨z, hz', rfl⟩ := hx
      have hbd := bounds_u8 (hwz z (List.mem_of_mem_take hz'))
      omega
set_option maxRecDepth 100000 in
theorem inums_cells {fuel : Nat} {cs : List Value} {x : DataW H × List MemPlace} (hf : DataW.trod enc Tryd.prog W base (fun _ => true) true fuel 37 cs = some x) :
    ∃ (v : Value) (xs : List Int), cs = [v] ∧ SlAt W v xs.length (xs.map u32V) ∧ (∀ x ∈ xs, N32 x) ∧ xs.length ≤ maxLen := by
  rcases open_ints Tryd.underlying37 Tryd.underlying22 icU32 hf with ⟨hcs, _⟩ | ⟨a, len, cap, zs, hcs, _, hl, hm, hz, _, hcell, hwz⟩
  · exact ⟨_, [], hcs, ⟨none, 0, rfl, Nat.le_refl _, Nat.zero_le _, .inl rfl⟩, by simp, by simp⟩
  · simp only [if_true] at hz
    have hlt : (zs.take len).length = len := by simp; omega
    refine ⟨_, zs.take len, hcs, ⟨some a, cap, by rw [hlt], by rw [hlt]; omega, hm, ?_⟩, fun x hx => ?_, by rw [hlt]; omega⟩
    · by_cases h0 : len = 0
      · left; subst h0; simp
      · obtain ⟨b, off, spot⟩ := a
        have hc0 := hcell 0 (by omega)
        have hspot : spot = none := by simpa [Addr.add] using World.cell?_spot hc0
        subst hspot
        refine .inr ⟨b, off, rfl, World.block_lt_of_cell? _ _ hc0, fun i x hx => ?_⟩
        have hi : i < len := by have := (List.getElem?_eq_some_iff.1 hx).1; simp at this; omega
        have hc := hcell i (by omega)
        rw [Addr.add_lit] at hc
        rw [hc]
        have hzi : zs[i]? = some (zs.getD i 0) := by
          rw [List.getD_eq_getElem?_getD, List.getElem?_eq_getElem (by omega : i < zs.length)]; rfl
        have hxe : x = u32V (zs.getD i 0) := by
          rw [List.getElem?_map, List.getElem?_take, if_pos hi, hzi] at hx
          simpa using hx.symm
        rw [hxe]
        rfl
    · have hbd := bounds_u32 (hwz x (List.mem_of_mem_take hx))
      exact ⟨hbd.1, by omega⟩
set_option maxRecDepth 100000 in
theorem ispan_cells {fuel : Nat} {cs : List Value} {x : DataW H × List MemPlace} (hf : DataW.trod enc Tryd.prog W base (fun _ => true) true fuel 36 cs = some x) :
    ∃ s : SpanV, cs = spanRow s ∧ SpanOk s := by
  obtain ⟨xs, n, _, hx, hsz, hlen, hg⟩ := DataW.trod_struct Tryd.underlying36 hf
  rw [icSpan] at hsz
  match cs, hsz, xs, hlen with
  | [c0, c1], _, [y0, y1], _ =>
    have g0 : DataW.trod enc Tryd.prog W base (fun _ => true) true n 22 [c0] = some y0 := by
      have h : DataW.trod enc Tryd.prog W base (fun _ => true) true n 22 ((List.drop 0 [c0, c1]).take (Tryd.prog.cellsOf 22)) = some y0 := hg 0 _ rfl
      rw [icU32] at h
      exact h
    have g1 : DataW.trod enc Tryd.prog W base (fun _ => true) true n 22 [c1] = some y1 := by
      have h : DataW.trod enc Tryd.prog W base (fun _ => true) true n 22 ((List.drop 1 [c0, c1]).take (Tryd.prog.cellsOf 22)) = some y1 := hg 1 _ rfl
      rw [icU32] at h
      exact h
    obtain ⟨a, e0, _, w0⟩ := DataW.trod_int Tryd.underlying22 g0
    obtain ⟨b, e1, _, w1⟩ := DataW.trod_int Tryd.underlying22 g1
    simp only [List.cons.injEq, and_true] at e0 e1
    subst e0 e1
    have b0 := bounds_u32 w0
    have b1 := bounds_u32 w1
    exact ⟨⟨a, b⟩, rfl, ⟨b0.1, by simp only; omega⟩, b1.1, by simp only; omega⟩
set_option maxRecDepth 100000 in
theorem ipart_cells {fuel : Nat} {cs : List Value} {x : DataW H × List MemPlace} (hf : DataW.trod enc Tryd.prog W base (fun _ => true) true fuel 39 cs = some x) :
    ∃ s : PartV × Value, cs = partRow s ∧ SlAt W s.2 s.1.entries.length (s.1.entries.map u32V) ∧ (SpanOk s.1.code ∧ SpanOk s.1.data ∧ SpanOk s.1.stack) ∧ (∀ e ∈ s.1.entries, N32 e) ∧ s.1.entries.length ≤ maxLen := by
  obtain ⟨xs, n, _, hx, hsz, hlen, hg⟩ := DataW.trod_struct Tryd.underlying39 hf
  rw [icPart] at hsz
  match cs, hsz, xs, hlen with
  | [c0, c1, c2, c3, c4, c5, c6, c7], _, [y0, y1, y2, y3, y4], _ =>
    have g0 : DataW.trod enc Tryd.prog W base (fun _ => true) true n 9 [c0] = some y0 := by
      have h : DataW.trod enc Tryd.prog W base (fun _ => true) true n 9 ((List.drop 0 [c0, c1, c2, c3, c4, c5, c6, c7]).take (Tryd.prog.cellsOf 9)) = some y0 := hg 0 _ rfl
      rw [icStr] at h
      exact h
    have g1 : DataW.trod enc Tryd.prog W base (fun _ => true) true n 36 [c1, c2] = some y1 := by
      have h : DataW.trod enc Tryd.prog W base (fun _ => true) true n 36 ((List.drop 1 [c0, c1, c2, c3, c4, c5, c6, c7]).take (Tryd.prog.cellsOf 36)) = some y1 := hg 1 _ rfl
      rw [icSpan] at h
      exact h
    have g2 : DataW.trod enc Tryd.prog W base (fun _ => true) true n 36 [c3, c4] = some y2 := by
      have h : DataW.trod enc Tryd.prog W base (fun _ => true) true n 36 ((List.drop 3 [c0, c1, c2, c3, c4, c5, c6, c7]).take (Tryd.prog.cellsOf 36)) = some y2 := hg 2 _ rfl
      rw [icSpan] at h
      exact h
    have g3 : DataW.trod enc Tryd.prog W base (fun _ => true) true n 36 [c5, c6] = some y3 := by
      have h : DataW.trod enc Tryd.prog W base (fun _ => true) true n 36 ((List.drop 5 [c0, c1, c2, c3, c4, c5, c6, c7]).take (Tryd.prog.cellsOf 36)) = some y3 := hg 3 _ rfl
      rw [icSpan] at h
      exact h
    have g4 : DataW.trod enc Tryd.prog W base (fun _ => true) true n 37 [c7] = some y4 := by
      have h : DataW.trod enc Tryd.prog W base (fun _ => true) true n 37 ((List.drop 7 [c0, c1, c2, c3, c4, c5, c6, c7]).take (Tryd.prog.cellsOf 37)) = some y4 := hg 4 _ rfl
      rw [icNums] at h
      exact h
    obtain ⟨s, e0, _, _⟩ := DataW.trod_string Tryd.underlying9 g0
    obtain ⟨a, e1, o1⟩ := ispan_cells g1
    obtain ⟨b, e2, o2⟩ := ispan_cells g2
    obtain ⟨c, e3, o3⟩ := ispan_cells g3
    obtain ⟨v, xs, e4, o4, o5, o6⟩ := inums_cells g4
    unfold spanRow at e1 e2 e3
    simp only [List.cons.injEq, and_true] at e0 e1 e2 e3 e4
    obtain ⟨e11, e12⟩ := e1
    obtain ⟨e21, e22⟩ := e2
    obtain ⟨e31, e32⟩ := e3
    subst e0 e11 e12 e21 e22 e31 e32 e4
    exact ⟨(⟨s, a, b, c, xs⟩, _), rfl, o4, ⟨o1, o2, o3⟩, o5, o6⟩
set_option maxRecDepth 100000 in
theorem iinit_cells {fuel : Nat} {cs : List Value} {x : DataW H × List MemPlace} (hf : DataW.trod enc Tryd.prog W base (fun _ => true) true fuel 43 cs = some x) :
    ∃ s : InitV, cs = initRow s ∧ N32 s.at_ ∧ N32 s.addr ∧ 0 ≤ s.perm ∧ s.perm < 65536 := by
  obtain ⟨xs, n, _, hx, hsz, hlen, hg⟩ := DataW.trod_struct Tryd.underlying43 hf
  rw [icInit] at hsz
  match cs, hsz, xs, hlen with
  | [c0, c1, c2, c3, c4, c5, c6], _, [y0, y1, y2, y3, y4, y5, y6], _ =>
    have g0 : DataW.trod enc Tryd.prog W base (fun _ => true) true n 3 [c0] = some y0 := by
      have h : DataW.trod enc Tryd.prog W base (fun _ => true) true n 3 ((List.drop 0 [c0, c1, c2, c3, c4, c5, c6]).take (Tryd.prog.cellsOf 3)) = some y0 := hg 0 _ rfl
      rw [icInt] at h
      exact h
    have g1 : DataW.trod enc Tryd.prog W base (fun _ => true) true n 22 [c1] = some y1 := by
      have h : DataW.trod enc Tryd.prog W base (fun _ => true) true n 22 ((List.drop 1 [c0, c1, c2, c3, c4, c5, c6]).take (Tryd.prog.cellsOf 22)) = some y1 := hg 1 _ rfl
      rw [icU32] at h
      exact h
    have g2 : DataW.trod enc Tryd.prog W base (fun _ => true) true n 3 [c2] = some y2 := by
      have h : DataW.trod enc Tryd.prog W base (fun _ => true) true n 3 ((List.drop 2 [c0, c1, c2, c3, c4, c5, c6]).take (Tryd.prog.cellsOf 3)) = some y2 := hg 2 _ rfl
      rw [icInt] at h
      exact h
    have g3 : DataW.trod enc Tryd.prog W base (fun _ => true) true n 4 [c3] = some y3 := by
      have h : DataW.trod enc Tryd.prog W base (fun _ => true) true n 4 ((List.drop 3 [c0, c1, c2, c3, c4, c5, c6]).take (Tryd.prog.cellsOf 4)) = some y3 := hg 3 _ rfl
      rw [icBool] at h
      exact h
    have g4 : DataW.trod enc Tryd.prog W base (fun _ => true) true n 3 [c4] = some y4 := by
      have h : DataW.trod enc Tryd.prog W base (fun _ => true) true n 3 ((List.drop 4 [c0, c1, c2, c3, c4, c5, c6]).take (Tryd.prog.cellsOf 3)) = some y4 := hg 4 _ rfl
      rw [icInt] at h
      exact h
    have g5 : DataW.trod enc Tryd.prog W base (fun _ => true) true n 22 [c5] = some y5 := by
      have h : DataW.trod enc Tryd.prog W base (fun _ => true) true n 22 ((List.drop 5 [c0, c1, c2, c3, c4, c5, c6]).take (Tryd.prog.cellsOf 22)) = some y5 := hg 5 _ rfl
      rw [icU32] at h
      exact h
    have g6 : DataW.trod enc Tryd.prog W base (fun _ => true) true n 29 [c6] = some y6 := by
      have h : DataW.trod enc Tryd.prog W base (fun _ => true) true n 29 ((List.drop 6 [c0, c1, c2, c3, c4, c5, c6]).take (Tryd.prog.cellsOf 29)) = some y6 := hg 6 _ rfl
      rw [icU16] at h
      exact h
    obtain ⟨a, e0, _, _⟩ := DataW.trod_int Tryd.underlying3 g0
    obtain ⟨b, e1, _, w1⟩ := DataW.trod_int Tryd.underlying22 g1
    obtain ⟨c, e2, _, _⟩ := DataW.trod_int Tryd.underlying3 g2
    obtain ⟨d, e3, _⟩ := DataW.trod_bool Tryd.underlying4 g3
    obtain ⟨f, e4, _, _⟩ := DataW.trod_int Tryd.underlying3 g4
    obtain ⟨g, e5, _, w5⟩ := DataW.trod_int Tryd.underlying22 g5
    obtain ⟨h, e6, _, w6⟩ := DataW.trod_int Tryd.underlying29 g6
    simp only [List.cons.injEq, and_true] at e0 e1 e2 e3 e4 e5 e6
    subst e0 e1 e2 e3 e4 e5 e6
    have b1 := bounds_u32 w1
    have b5 := bounds_u32 w5
    have b6 := bounds_u16 w6
    exact ⟨⟨a, b, c, d, f, g, h⟩, rfl, ⟨b1.1, by simp only; omega⟩, ⟨b5.1, by simp only; omega⟩, b6.1, by simp only; omega⟩
set_option maxRecDepth 100000 in
theorem ipart_rows {fuel : Nat} {cs : List Value} {x : DataW H × List MemPlace} (hf : DataW.trod enc Tryd.prog W base (fun _ => true) true fuel 23 cs = some x) :
    ∃ (v : Value) (l : List (PartV × Value)), cs = [v] ∧ SlAt W v l.length (l.flatMap partRow) ∧ (∀ s ∈ l, SlAt W s.2 s.1.entries.length (s.1.entries.map u32V) ∧ (SpanOk s.1.code ∧ SpanOk s.1.data ∧ SpanOk s.1.stack) ∧ (∀ e ∈ s.1.entries, N32 e) ∧ s.1.entries.length ≤ maxLen) ∧ l.length ≤ maxLen := by
  rcases open_slice Tryd.underlying23 hf with ⟨hcs, hx⟩ | ⟨a, len, cap, m, n, D, Pl, hcs, _, hl, hm, hmm, hx, hE⟩
  · exact ⟨_, [], hcs, ⟨none, 0, rfl, Nat.le_refl _, Nat.zero_le _, .inl rfl⟩, fun s hs => by simp at hs, Nat.zero_le _⟩
  · simp only [if_true] at hmm
    obtain ⟨ab, off, spot⟩ := a
    have hR : ∀ k, k < len → ∃ s : (PartV × Value), (SlAt W s.2 s.1.entries.length (s.1.entries.map u32V) ∧ (SpanOk s.1.code ∧ SpanOk s.1.data ∧ SpanOk s.1.stack) ∧ (∀ e ∈ s.1.entries, N32 e) ∧ s.1.entries.length ≤ maxLen) ∧ spot = none ∧ ∀ j, j < 8 → W.cell? ⟨ab, off + k * 8 + j, none⟩ = (partRow s)[j]? := by
      intro k hk
      obtain ⟨cs', h1, h2⟩ := hE k (by omega)
      obtain ⟨s, rfl, hok⟩ := ipart_cells h2
      obtain ⟨_, _, h3⟩ := World.cells?_some h1
      rw [icPart] at h3
      obtain ⟨cs0, h10, h20⟩ := hE 0 (by omega)
      obtain ⟨s0, rfl, _⟩ := ipart_cells h20
      obtain ⟨_, _, h30⟩ := World.cells?_some h10
      rw [icPart] at h30
      have hc0 := h30 0 (by decide)
      have hspot : spot = none := by
        simp only [Nat.zero_mul, Addr.add_zero'] at hc0
        exact World.cell?_spot hc0
      subst hspot
      refine ⟨s, hok, rfl, fun j hj => ?_⟩
      have h4 := h3 j (by omega)
      rw [Addr.add_lit, Addr.add_lit] at h4
      exact h4
    haveI : Inhabited (PartV × Value) := ⟨(⟨⟨#[]⟩, ⟨0, 0⟩, ⟨0, 0⟩, ⟨0, 0⟩, []⟩, .slice none 0 0)⟩
    obtain ⟨R, hR⟩ := choose_lt hR
    refine ⟨_, (List.range len).map R, hcs, ⟨some ⟨ab, off, spot⟩, cap, by simp, by simpa using hl, hm, ?_⟩, ?_, by simp; omega⟩
    · by_cases h0 : len = 0
      · left; subst h0; rfl
      · obtain ⟨_, hsp, hc0⟩ := hR 0 (by omega)
        subst hsp
        refine .inr ⟨ab, off, rfl, ?_, fun i x hx => ?_⟩
        · have h := hc0 0 (by decide)
          exact World.block_lt_of_cell? _ _ h
        · have hi := (List.getElem?_eq_some_iff.1 hx).1
          rw [rows_length (k := 8) (fun _ => rfl)] at hi
          simp only [List.length_map, List.length_range] at hi
          have hk : i / 8 < len := Nat.div_lt_of_lt_mul (by omega)
          have hj : i % 8 < 8 := Nat.mod_lt _ (by decide)
          have e : i = i / 8 * 8 + i % 8 := by omega
          have h1 := rows_row (f := partRow) (k := 8) (fun _ => rfl) ((List.range len).map R) (i / 8) (i % 8) hj (R (i / 8)) (by simp [hk])
          rw [← e, hx] at h1
          have h2 := (hR (i / 8) hk).2.2 (i % 8) hj
          rw [← h1, Nat.add_assoc, ← e] at h2
          exact h2
    · intro s hs
      simp only [List.mem_map, List.mem_range] at hs
      obtain ⟨i, hi, rfl⟩ := hs
      exact (hR i hi).1
set_option maxRecDepth 100000 in
theorem ispan_rows {fuel : Nat} {cs : List Value} {x : DataW H × List MemPlace} (hf : DataW.trod enc Tryd.prog W base (fun _ => true) true fuel 24 cs = some x) :
    ∃ (v : Value) (l : List SpanV), cs = [v] ∧ SlAt W v l.length (l.flatMap spanRow) ∧ (∀ s ∈ l, SpanOk s) ∧ l.length ≤ maxLen := by
  rcases open_slice Tryd.underlying24 hf with ⟨hcs, hx⟩ | ⟨a, len, cap, m, n, D, Pl, hcs, _, hl, hm, hmm, hx, hE⟩
  · exact ⟨_, [], hcs, ⟨none, 0, rfl, Nat.le_refl _, Nat.zero_le _, .inl rfl⟩, fun s hs => by simp at hs, Nat.zero_le _⟩
  · simp only [if_true] at hmm
    obtain ⟨ab, off, spot⟩ := a
    have hR : ∀ k, k < len → ∃ s : SpanV, (SpanOk s) ∧ spot = none ∧ ∀ j, j < 2 → W.cell? ⟨ab, off + k * 2 + j, none⟩ = (spanRow s)[j]? := by
      intro k hk
      obtain ⟨cs', h1, h2⟩ := hE k (by omega)
      obtain ⟨s, rfl, hok⟩ := ispan_cells h2
      obtain ⟨_, _, h3⟩ := World.cells?_some h1
      rw [icSpan] at h3
      obtain ⟨cs0, h10, h20⟩ := hE 0 (by omega)
      obtain ⟨s0, rfl, _⟩ := ispan_cells h20
      obtain ⟨_, _, h30⟩ := World.cells?_some h10
      rw [icSpan] at h30
      have hc0 := h30 0 (by decide)
      have hspot : spot = none := by
        simp only [Nat.zero_mul, Addr.add_zero'] at hc0
        exact World.cell?_spot hc0
      subst hspot
      refine ⟨s, hok, rfl, fun j hj => ?_⟩
      have h4 := h3 j (by omega)
      rw [Addr.add_lit, Addr.add_lit] at h4
      exact h4
    haveI : Inhabited SpanV := ⟨⟨0, 0⟩⟩
    obtain ⟨R, hR⟩ := choose_lt hR
    refine ⟨_, (List.range len).map R, hcs, ⟨some ⟨ab, off, spot⟩, cap, by simp, by simpa using hl, hm, ?_⟩, ?_, by simp; omega⟩
    · by_cases h0 : len = 0
      · left; subst h0; rfl
      · obtain ⟨_, hsp, hc0⟩ := hR 0 (by omega)
        subst hsp
        refine .inr ⟨ab, off, rfl, ?_, fun i x hx => ?_⟩
        · have h := hc0 0 (by decide)
          exact World.block_lt_of_cell? _ _ h
        · have hi := (List.getElem?_eq_some_iff.1 hx).1
          rw [rows_length (k := 2) (fun _ => rfl)] at hi
          simp only [List.length_map, List.length_range] at hi
          have hk : i / 2 < len := Nat.div_lt_of_lt_mul (by omega)
          have hj : i % 2 < 2 := Nat.mod_lt _ (by decide)
          have e : i = i / 2 * 2 + i % 2 := by omega
          have h1 := rows_row (f := spanRow) (k := 2) (fun _ => rfl) ((List.range len).map R) (i / 2) (i % 2) hj (R (i / 2)) (by simp [hk])
          rw [← e, hx] at h1
          have h2 := (hR (i / 2) hk).2.2 (i % 2) hj
          rw [← h1, Nat.add_assoc, ← e] at h2
          exact h2
    · intro s hs
      simp only [List.mem_map, List.mem_range] at hs
      obtain ⟨i, hi, rfl⟩ := hs
      exact (hR i hi).1
set_option maxRecDepth 100000 in
theorem iinit_rows {fuel : Nat} {cs : List Value} {x : DataW H × List MemPlace} (hf : DataW.trod enc Tryd.prog W base (fun _ => true) true fuel 25 cs = some x) :
    ∃ (v : Value) (l : List InitV), cs = [v] ∧ SlAt W v l.length (l.flatMap initRow) ∧ (∀ s ∈ l, N32 s.at_ ∧ N32 s.addr ∧ 0 ≤ s.perm ∧ s.perm < 65536) ∧ l.length ≤ maxLen := by
  rcases open_slice Tryd.underlying25 hf with ⟨hcs, hx⟩ | ⟨a, len, cap, m, n, D, Pl, hcs, _, hl, hm, hmm, hx, hE⟩
  · exact ⟨_, [], hcs, ⟨none, 0, rfl, Nat.le_refl _, Nat.zero_le _, .inl rfl⟩, fun s hs => by simp at hs, Nat.zero_le _⟩
  · simp only [if_true] at hmm
    obtain ⟨ab, off, spot⟩ := a
    have hR : ∀ k, k < len → ∃ s : InitV, (N32 s.at_ ∧ N32 s.addr ∧ 0 ≤ s.perm ∧ s.perm < 65536) ∧ spot = none ∧ ∀ j, j < 7 → W.cell? ⟨ab, off + k * 7 + j, none⟩ = (initRow s)[j]? := by
      intro k hk
      obtain ⟨cs', h1, h2⟩ := hE k (by omega)
      obtain ⟨s, rfl, hok⟩ := iinit_cells h2
      obtain ⟨_, _, h3⟩ := World.cells?_some h1
      rw [icInit] at h3
      obtain ⟨cs0, h10, h20⟩ := hE 0 (by omega)
      obtain ⟨s0, rfl, _⟩ := iinit_cells h20
      obtain ⟨_, _, h30⟩ := World.cells?_some h10
      rw [icInit] at h30
      have hc0 := h30 0 (by decide)
      have hspot : spot = none := by
        simp only [Nat.zero_mul, Addr.add_zero'] at hc0
        exact World.cell?_spot hc0
      subst hspot
      refine ⟨s, hok, rfl, fun j hj => ?_⟩
      have h4 := h3 j (by omega)
      rw [Addr.add_lit, Addr.add_lit] at h4
      exact h4
    haveI : Inhabited InitV := ⟨⟨0, 0, 0, false, 0, 0, 0⟩⟩
    obtain ⟨R, hR⟩ := choose_lt hR
    refine ⟨_, (List.range len).map R, hcs, ⟨some ⟨ab, off, spot⟩, cap, by simp, by simpa using hl, hm, ?_⟩, ?_, by simp; omega⟩
    · by_cases h0 : len = 0
      · left; subst h0; rfl
      · obtain ⟨_, hsp, hc0⟩ := hR 0 (by omega)
        subst hsp
        refine .inr ⟨ab, off, rfl, ?_, fun i x hx => ?_⟩
        · have h := hc0 0 (by decide)
          exact World.block_lt_of_cell? _ _ h
        · have hi := (List.getElem?_eq_some_iff.1 hx).1
          rw [rows_length (k := 7) (fun _ => rfl)] at hi
          simp only [List.length_map, List.length_range] at hi
          have hk : i / 7 < len := Nat.div_lt_of_lt_mul (by omega)
          have hj : i % 7 < 7 := Nat.mod_lt _ (by decide)
          have e : i = i / 7 * 7 + i % 7 := by omega
          have h1 := rows_row (f := initRow) (k := 7) (fun _ => rfl) ((List.range len).map R) (i / 7) (i % 7) hj (R (i / 7)) (by simp [hk])
          rw [← e, hx] at h1
          have h2 := (hR (i / 7) hk).2.2 (i % 7) hj
          rw [← h1, Nat.add_assoc, ← e] at h2
          exact h2
    · intro s hs
      simp only [List.mem_map, List.mem_range] at hs
      obtain ⟨i, hi, rfl⟩ := hs
      exact (hR i hi).1
theorem zip_split {α β : Type} (l : List (α × β)) : (l.map Prod.fst).zip (l.map Prod.snd) = l := by
  induction l with
  | nil => rfl
  | cons a l ih => rw [List.map_cons, List.map_cons, List.zip_cons_cons, ih]
set_option maxRecDepth 100000 in
theorem img_cells {fuel : Nat} {cs : List Value} {x : DataW H × List MemPlace} (hf : DataW.trod enc Tryd.prog W base (fun _ => true) true fuel 28 cs = some x) :
    ∃ (i : ImgV) (vp vs vi vb : Value) (ves : List Value), cs = [.int .u32 i.size, vp, vs, vi, .int .i64 i.start, .int .u32 i.addr, vb] ∧ ImgAt W i vp vs vi vb ves ∧ ImgNum i ∧ i.parts.length ≤ maxLen ∧ i.shares.length ≤ maxLen ∧ i.inits.length ≤ maxLen ∧ i.bytes.length ≤ maxLen ∧ (∀ p ∈ i.parts, p.entries.length ≤ maxLen) := by
  obtain ⟨xs, n, _, hx, hsz, hlen, hg⟩ := DataW.trod_struct Tryd.underlying28 hf
  rw [icImg] at hsz
  match cs, hsz, xs, hlen with
  | [c0, c1, c2, c3, c4, c5, c6], _, [y0, y1, y2, y3, y4, y5, y6], _ =>
    have g0 : DataW.trod enc Tryd.prog W base (fun _ => true) true n 22 [c0] = some y0 := by
      have h : DataW.trod enc Tryd.prog W base (fun _ => true) true n 22 ((List.drop 0 [c0, c1, c2, c3, c4, c5, c6]).take (Tryd.prog.cellsOf 22)) = some y0 := hg 0 _ rfl
      rw [icU32] at h
      exact h
    have g1 : DataW.trod enc Tryd.prog W base (fun _ => true) true n 23 [c1] = some y1 := by
      have h : DataW.trod enc Tryd.prog W base (fun _ => true) true n 23 ((List.drop 1 [c0, c1, c2, c3, c4, c5, c6]).take (Tryd.prog.cellsOf 23)) = some y1 := hg 1 _ rfl
      rw [icParts] at h
      exact h
    have g2 : DataW.trod enc Tryd.prog W base (fun _ => true) true n 24 [c2] = some y2 := by
      have h : DataW.trod enc Tryd.prog W base (fun _ => true) true n 24 ((List.drop 2 [c0, c1, c2, c3, c4, c5, c6]).take (Tryd.prog.cellsOf 24)) = some y2 := hg 2 _ rfl
      rw [icSpans] at h
      exact h
    have g3 : DataW.trod enc Tryd.prog W base (fun _ => true) true n 25 [c3] = some y3 := by
      have h : DataW.trod enc Tryd.prog W base (fun _ => true) true n 25 ((List.drop 3 [c0, c1, c2, c3, c4, c5, c6]).take (Tryd.prog.cellsOf 25)) = some y3 := hg 3 _ rfl
      rw [icInits] at h
      exact h
    have g4 : DataW.trod enc Tryd.prog W base (fun _ => true) true n 3 [c4] = some y4 := by
      have h : DataW.trod enc Tryd.prog W base (fun _ => true) true n 3 ((List.drop 4 [c0, c1, c2, c3, c4, c5, c6]).take (Tryd.prog.cellsOf 3)) = some y4 := hg 4 _ rfl
      rw [icInt] at h
      exact h
    have g5 : DataW.trod enc Tryd.prog W base (fun _ => true) true n 22 [c5] = some y5 := by
      have h : DataW.trod enc Tryd.prog W base (fun _ => true) true n 22 ((List.drop 5 [c0, c1, c2, c3, c4, c5, c6]).take (Tryd.prog.cellsOf 22)) = some y5 := hg 5 _ rfl
      rw [icU32] at h
      exact h
    have g6 : DataW.trod enc Tryd.prog W base (fun _ => true) true n 26 [c6] = some y6 := by
      have h : DataW.trod enc Tryd.prog W base (fun _ => true) true n 26 ((List.drop 6 [c0, c1, c2, c3, c4, c5, c6]).take (Tryd.prog.cellsOf 26)) = some y6 := hg 6 _ rfl
      rw [icBytes] at h
      exact h
    obtain ⟨a, e0, _, w0⟩ := DataW.trod_int Tryd.underlying22 g0
    obtain ⟨vp, lp, e1, a1, b1, m1⟩ := ipart_rows g1
    obtain ⟨vs, ls, e2, a2, b2, m2⟩ := ispan_rows g2
    obtain ⟨vi, li, e3, a3, b3, m3⟩ := iinit_rows g3
    obtain ⟨st, e4, _, _⟩ := DataW.trod_int Tryd.underlying3 g4
    obtain ⟨ad, e5, _, w5⟩ := DataW.trod_int Tryd.underlying22 g5
    obtain ⟨vb, xb, e6, a6, b6, m6⟩ := ibytes_cells g6
    simp only [List.cons.injEq, and_true] at e0 e1 e2 e3 e4 e5 e6
    subst e0 e1 e2 e3 e4 e5 e6
    have q0 := bounds_u32 w0
    have q5 := bounds_u32 w5
    refine ⟨⟨a, lp.map Prod.fst, ls, li, st, ad, xb⟩, _, _, _, _, lp.map Prod.snd, rfl, ⟨?_, by simp, ?_, a2, a3, a6⟩, ⟨⟨q0.1, by simp only; omega⟩, ?_, ?_, fun x hx => (b3 x hx).1, fun x hx => (b3 x hx).2.1, fun x hx => (b3 x hx).2.2, ⟨q5.1, by simp only; omega⟩, b6⟩, by simpa using m1, m2, m3, m6, ?_⟩
    · unfold partRows
      rw [zip_split]
      simpa using a1
    · intro k p v hp hv
      simp only [List.getElem?_map, Option.map_eq_some_iff] at hp hv
      obtain ⟨s, hs, rfl⟩ := hp
      obtain ⟨s', hs', rfl⟩ := hv
      rw [hs] at hs'
      cases hs'
      exact (b1 s (List.mem_of_getElem? hs)).1
    · intro s hs
      unfold spansI at hs
      simp only [List.mem_append, List.mem_flatMap, List.mem_map, List.mem_cons, List.not_mem_nil, or_false] at hs
      rcases hs with ⟨p, ⟨q, hq, rfl⟩, h⟩ | h
      · have := (b1 q hq).2.1
        rcases h with rfl | rfl | rfl
        · exact this.1
        · exact this.2.1
        · exact this.2.2
      · exact b2 s h
    · intro p hp
      simp only [List.mem_map] at hp
      obtain ⟨q, hq, rfl⟩ := hp
      exact (b1 q hq).2.2.1
    · intro p hp
      simp only [List.mem_map] at hp
      obtain ⟨q, hq, rfl⟩ := hp
      exact (b1 q hq).2.2.2
set_option maxRecDepth 100000 in
/-- An image. -/
theorem open_img {r : Reach} {b0 : Nat} {v : Value} {d : DataW H} {pl : List MemPlace} (hv : Value.okWide Tryd.prog W r b0 28 v) (h : DataW.Trod enc Tryd.prog W base (fun _ => true) true 28 v d pl) :
    ∃ (i : ImgV) (vp vs vi vb : Value) (ves : List Value), v = imgVal i vp vs vi vb ∧ ImgAt W i vp vs vi vb ves ∧ ImgNum i ∧ i.parts.length ≤ maxLen ∧ i.shares.length ≤ maxLen ∧ i.inits.length ≤ maxLen ∧ i.bytes.length ≤ maxLen ∧ (∀ p ∈ i.parts, p.entries.length ≤ maxLen) := by
  obtain ⟨cs, rfl, hsz⟩ := okWide_struct Tryd.underlying28 hv
  obtain ⟨fuel, hf⟩ := h
  obtain ⟨i, vp, vs, vi, vb, ves, hcs, rest⟩ := img_cells hf
  obtain ⟨l⟩ := cs
  have hl : l = [.int .u32 i.size, vp, vs, vi, .int .i64 i.start, .int .u32 i.addr, vb] := hcs
  subst hl
  exact ⟨i, vp, vs, vi, vb, ves, rfl, rest⟩
end
end Go.Proofs.YtmcbeclkocjlkaaDoor
