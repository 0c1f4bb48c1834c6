/- ObjData, ManData, LnkData: An object as an argument: what lies there. -/
import Derived.Test.YtbmjnfnekmeegaaGreatDoorGObjF
import Derived.Test.YtbmjnfnekmeegaaGreatDoorChecked
import Derived.ProofKit
import Derived.OpenShut
import Derived.WideKeyArgs
import Derived.ChangeSlices
import Derived.ChangeMaps5
import Derived.Deep.Slices
import Derived.Deep.Fields
import Derived.Test.YtbmjnfnekmeegaaGreatDoorGManA
import Derived.Test.YtbmjnfnekmeegaaGreatDoorGPlainM
import Derived.Test.YtbmjnfnekmeegaaGreatDoorGLnkA
/- An object as an argument: what lies there. -/
namespace Go.Proofs.YtbmjnfnekmeegaaGreatDoor
set_option linter.unusedVariables false
set_option linter.unusedSimpArgs false
open Go.ChangeShapes Go.WideShapes Go.ChangeAt Go.RowKit Go.Deep
section
variable {H : Type} {enc : TypeId × Value → H} {W : World} {base : Nat}
theorem ocObj : Tryz.prog.cellsOf 76 = 5 := by kernel_rfl
theorem ocSym : Tryz.prog.cellsOf 88 = 4 := by kernel_rfl
theorem ocRel : Tryz.prog.cellsOf 137 = 5 := by kernel_rfl
theorem ocStr : Tryz.prog.cellsOf 9 = 1 := by kernel_rfl
theorem ocBool : Tryz.prog.cellsOf 4 = 1 := by kernel_rfl
theorem ocInt : Tryz.prog.cellsOf 3 = 1 := by kernel_rfl
theorem ocU8 : Tryz.prog.cellsOf 5 = 1 := by kernel_rfl
theorem ocU16 : Tryz.prog.cellsOf 78 = 1 := by kernel_rfl
theorem ocU32 : Tryz.prog.cellsOf 31 = 1 := by kernel_rfl
theorem ocBytes : Tryz.prog.cellsOf 38 = 1 := by kernel_rfl
theorem ocSyms : Tryz.prog.cellsOf 73 = 1 := by kernel_rfl
theorem ocRels : Tryz.prog.cellsOf 74 = 1 := by kernel_rfl
set_option maxRecDepth 100000 in
theorem sym_cells {fuel : Nat} {cs : List Value} {x : DataW H × List MemPlace} (hf : DataW.trod enc Tryz.prog W base (fun _ => true) true fuel 88 cs = some x) :
    ∃ s : SymV, cs = symRow s ∧ SymOk s := by
  obtain ⟨xs, n, _, hx, hsz, hlen, hg⟩ := DataW.trod_struct Tryz.underlying88 hf
  rw [ocSym] at hsz
  match cs, hsz, xs, hlen with
  | [c0, c1, c2, c3], _, [y0, y1, y2, y3], _ =>
    have g0 : DataW.trod enc Tryz.prog W base (fun _ => true) true n 9 [c0] = some y0 := by
      have h : DataW.trod enc Tryz.prog W base (fun _ => true) true n 9 ((List.drop 0 [c0, c1, c2, c3]).take (Tryz.prog.cellsOf 9)) = some y0 := hg 0 _ rfl
      rw [ocStr] at h
      exact h
    have g1 : DataW.trod enc Tryz.prog W base (fun _ => true) true n 4 [c1] = some y1 := by
      have h : DataW.trod enc Tryz.prog W base (fun _ => true) true n 4 ((List.drop 1 [c0, c1, c2, c3]).take (Tryz.prog.cellsOf 4)) = some y1 := hg 1 _ rfl
      rw [ocBool] at h
      exact h
    have g2 : DataW.trod enc Tryz.prog W base (fun _ => true) true n 31 [c2] = some y2 := by
      have h : DataW.trod enc Tryz.prog W base (fun _ => true) true n 31 ((List.drop 2 [c0, c1, c2, c3]).take (Tryz.prog.cellsOf 31)) = some y2 := hg 2 _ rfl
      rw [ocU32] at h
      exact h
    have g3 : DataW.trod enc Tryz.prog W base (fun _ => true) true n 4 [c3] = some y3 := by
      have h : DataW.trod enc Tryz.prog W base (fun _ => true) true n 4 ((List.drop 3 [c0, c1, c2, c3]).take (Tryz.prog.cellsOf 4)) = some y3 := hg 3 _ rfl
      rw [ocBool] at h
      exact h
    obtain ⟨s, e0, _, _⟩ := DataW.trod_string Tryz.underlying9 g0
    obtain ⟨d, e1, _⟩ := DataW.trod_bool Tryz.underlying4 g1
    obtain ⟨o, e2, _, w2⟩ := DataW.trod_int Tryz.underlying31 g2
    obtain ⟨x, e3, _⟩ := DataW.trod_bool Tryz.underlying4 g3
    simp only [List.cons.injEq, and_true] at e0 e1 e2 e3
    subst e0 e1 e2 e3
    have hb := bounds_u32 w2
    exact ⟨⟨s, d, o, x⟩, rfl, hb.1, by simp only; omega⟩
set_option maxRecDepth 100000 in
theorem rel_cells {fuel : Nat} {cs : List Value} {x : DataW H × List MemPlace} (hf : DataW.trod enc Tryz.prog W base (fun _ => true) true fuel 137 cs = some x) :
    ∃ r : RelV, cs = relRow r ∧ (-9223372036854775808 ≤ r.kind ∧ r.kind ≤ 9223372036854775807) ∧ 0 ≤ r.off ∧ r.off < 4294967296 ∧ 0 ≤ r.perm ∧ r.perm < 65536 := by
  obtain ⟨xs, n, _, hx, hsz, hlen, hg⟩ := DataW.trod_struct Tryz.underlying137 hf
  rw [ocRel] at hsz
  match cs, hsz, xs, hlen with
  | [c0, c1, c2, c3, c4], _, [y0, y1, y2, y3, y4], _ =>
    have g0 : DataW.trod enc Tryz.prog W base (fun _ => true) true n 3 [c0] = some y0 := by
      have h : DataW.trod enc Tryz.prog W base (fun _ => true) true n 3 ((List.drop 0 [c0, c1, c2, c3, c4]).take (Tryz.prog.cellsOf 3)) = some y0 := hg 0 _ rfl
      rw [ocInt] at h
      exact h
    have g1 : DataW.trod enc Tryz.prog W base (fun _ => true) true n 31 [c1] = some y1 := by
      have h : DataW.trod enc Tryz.prog W base (fun _ => true) true n 31 ((List.drop 1 [c0, c1, c2, c3, c4]).take (Tryz.prog.cellsOf 31)) = some y1 := hg 1 _ rfl
      rw [ocU32] at h
      exact h
    have g2 : DataW.trod enc Tryz.prog W base (fun _ => true) true n 9 [c2] = some y2 := by
      have h : DataW.trod enc Tryz.prog W base (fun _ => true) true n 9 ((List.drop 2 [c0, c1, c2, c3, c4]).take (Tryz.prog.cellsOf 9)) = some y2 := hg 2 _ rfl
      rw [ocStr] at h
      exact h
    have g3 : DataW.trod enc Tryz.prog W base (fun _ => true) true n 9 [c3] = some y3 := by
      have h : DataW.trod enc Tryz.prog W base (fun _ => true) true n 9 ((List.drop 3 [c0, c1, c2, c3, c4]).take (Tryz.prog.cellsOf 9)) = some y3 := hg 3 _ rfl
      rw [ocStr] at h
      exact h
    have g4 : DataW.trod enc Tryz.prog W base (fun _ => true) true n 78 [c4] = some y4 := by
      have h : DataW.trod enc Tryz.prog W base (fun _ => true) true n 78 ((List.drop 4 [c0, c1, c2, c3, c4]).take (Tryz.prog.cellsOf 78)) = some y4 := hg 4 _ rfl
      rw [ocU16] at h
      exact h
    obtain ⟨k, e0, _, w0⟩ := DataW.trod_int Tryz.underlying3 g0
    obtain ⟨o, e1, _, w1⟩ := DataW.trod_int Tryz.underlying31 g1
    obtain ⟨c, e2, _, _⟩ := DataW.trod_string Tryz.underlying9 g2
    obtain ⟨m, e3, _, _⟩ := DataW.trod_string Tryz.underlying9 g3
    obtain ⟨p, e4, _, w4⟩ := DataW.trod_int Tryz.underlying78 g4
    simp only [List.cons.injEq, and_true] at e0 e1 e2 e3 e4
    subst e0 e1 e2 e3 e4
    have b0 := bounds_i64 w0
    have b1 := bounds_u32 w1
    have b4 := bounds_u16 w4
    exact ⟨⟨k, o, c, m, p⟩, rfl, ⟨by simp only; omega, by simp only; omega⟩, by simp only; omega, by simp only; omega, by simp only; omega, by simp only; omega⟩
set_option maxRecDepth 100000 in
theorem bytes_cells {fuel : Nat} {cs : List Value} {x : DataW H × List MemPlace} (hf : DataW.trod enc Tryz.prog W base (fun _ => true) true fuel 38 cs = some x) :
    ∃ (v : Value) (xs : List Nat), cs = [v] ∧ SlAt W v xs.length (xs.map byteV) ∧ (∀ x ∈ xs, x < 256) ∧ xs.length ≤ maxLen := by
  rcases open_ints Tryz.underlying38 Tryz.underlying5 ocU8 hf with ⟨hcs, _⟩ | ⟨a, len, cap, zs, hcs, _, hl, hm, hz, _, hcell, hwz⟩
  · exact ⟨_, [], hcs, ⟨none, 0, rfl, Nat.le_refl _, Nat.zero_le _, .inl rfl⟩, by simp, by simp⟩
  · simp only [if_true] at hz
    have hlt : ((zs.take len).map Int.toNat).length = len := by simp; omega
    refine ⟨_, (zs.take len).map Int.toNat, hcs, ⟨some a, cap, by rw [hlt], by rw [hlt]; omega, hm, ?_⟩, fun x hx => ?_, by rw [hlt]; omega⟩
    · by_cases h0 : len = 0
      · left; subst h0; simp
      · obtain ⟨b, off, spot⟩ := a
        have hc0 := hcell 0 (by omega)
        have hspot : spot = none := by simpa [Addr.add] using World.cell?_spot hc0
        subst hspot
        refine .inr ⟨b, off, rfl, World.block_lt_of_cell? _ _ hc0, fun i x hx => ?_⟩
        have hi : i < len := by have := (List.getElem?_eq_some_iff.1 hx).1; simp at this; omega
        have hc := hcell i (by omega)
        rw [Addr.add_lit] at hc
        rw [hc]
        have hzi : zs[i]? = some (zs.getD i 0) := by
          rw [List.getD_eq_getElem?_getD, List.getElem?_eq_getElem (by omega : i < zs.length)]; rfl
        have hxe : x = byteV (zs.getD i 0).toNat := by
          rw [List.getElem?_map, List.getElem?_map, List.getElem?_take, if_pos hi, hzi] at hx
          simpa using hx.symm
        have hbd := bounds_u8 (hwz _ (List.mem_of_getElem? hzi))
        rw [hxe]
        unfold byteV
        rw [Int.toNat_of_nonneg hbd.1]
    · simp only [List.mem_map] at hx
      obtain ⟨z, hz', rfl⟩ := hx
      have hbd := bounds_u8 (hwz z (List.mem_of_mem_take hz'))
      omega
set_option maxRecDepth 100000 in
theorem sym_rows {fuel : Nat} {cs : List Value} {x : DataW H × List MemPlace} (hf : DataW.trod enc Tryz.prog W base (fun _ => true) true fuel 73 cs = some x) :
    ∃ (v : Value) (l : List SymV), cs = [v] ∧ SlAt W v l.length (l.flatMap symRow) ∧ (∀ s ∈ l, SymOk s) ∧ l.length ≤ maxLen := by
  rcases open_slice Tryz.underlying73 hf with ⟨hcs, hx⟩ | ⟨a, len, cap, m, n, D, Pl, hcs, _, hl, hm, hmm, hx, hE⟩
  · exact ⟨_, [], hcs, ⟨none, 0, rfl, Nat.le_refl _, Nat.zero_le _, .inl rfl⟩, fun s hs => by simp at hs, Nat.zero_le _⟩
  · simp only [if_true] at hmm
    obtain ⟨ab, off, spot⟩ := a
    have hR : ∀ k, k < len → ∃ s : SymV, (SymOk s) ∧ spot = none ∧ ∀ j, j < 4 → W.cell? ⟨ab, off + k * 4 + j, none⟩ = (symRow s)[j]? := by
      intro k hk
      obtain ⟨cs', h1, h2⟩ := hE k (by omega)
      obtain ⟨s, rfl, hok⟩ := sym_cells h2
      obtain ⟨_, _, h3⟩ := World.cells?_some h1
      rw [ocSym] at h3
      obtain ⟨cs0, h10, h20⟩ := hE 0 (by omega)
      obtain ⟨s0, rfl, _⟩ := sym_cells h20
      obtain ⟨_, _, h30⟩ := World.cells?_some h10
      rw [ocSym] at h30
      have hc0 := h30 0 (by decide)
      have hspot : spot = none := by
        simp only [Nat.zero_mul, Addr.add_zero'] at hc0
        exact World.cell?_spot hc0
      subst hspot
      refine ⟨s, hok, rfl, fun j hj => ?_⟩
      have h4 := h3 j (by omega)
      rw [Addr.add_lit, Addr.add_lit] at h4
      exact h4
    haveI : Inhabited SymV := ⟨⟨⟨#[]⟩, false, 0, false⟩⟩
    obtain ⟨R, hR⟩ := choose_lt hR
    refine ⟨_, (List.range len).map R, hcs, ⟨some ⟨ab, off, spot⟩, cap, by simp, by simpa using hl, hm, ?_⟩, ?_, by simp; omega⟩
    · by_cases h0 : len = 0
      · left; subst h0; rfl
      · obtain ⟨_, hsp, hc0⟩ := hR 0 (by omega)
        subst hsp
        refine .inr ⟨ab, off, rfl, ?_, fun i x hx => ?_⟩
        · have h := hc0 0 (by decide)
          exact World.block_lt_of_cell? _ _ h
        · have hi := (List.getElem?_eq_some_iff.1 hx).1
          rw [rows_length (k := 4) (fun _ => rfl)] at hi
          simp only [List.length_map, List.length_range] at hi
          have hk : i / 4 < len := Nat.div_lt_of_lt_mul (by omega)
          have hj : i % 4 < 4 := Nat.mod_lt _ (by decide)
          have e : i = i / 4 * 4 + i % 4 := by omega
          have h1 := rows_row (f := symRow) (k := 4) (fun _ => rfl) ((List.range len).map R) (i / 4) (i % 4) hj (R (i / 4)) (by simp [hk])
          rw [← e, hx] at h1
          have h2 := (hR (i / 4) hk).2.2 (i % 4) hj
          rw [← h1, Nat.add_assoc, ← e] at h2
          exact h2
    · intro s hs
      simp only [List.mem_map, List.mem_range] at hs
      obtain ⟨i, hi, rfl⟩ := hs
      exact (hR i hi).1
set_option maxRecDepth 100000 in
theorem rel_rows {fuel : Nat} {cs : List Value} {x : DataW H × List MemPlace} (hf : DataW.trod enc Tryz.prog W base (fun _ => true) true fuel 74 cs = some x) :
    ∃ (v : Value) (l : List RelV), cs = [v] ∧ SlAt W v l.length (l.flatMap relRow) ∧ (∀ s ∈ l, (-9223372036854775808 ≤ s.kind ∧ s.kind ≤ 9223372036854775807) ∧ 0 ≤ s.off ∧ s.off < 4294967296 ∧ 0 ≤ s.perm ∧ s.perm < 65536) ∧ l.length ≤ maxLen := by
  rcases open_slice Tryz.underlying74 hf with ⟨hcs, hx⟩ | ⟨a, len, cap, m, n, D, Pl, hcs, _, hl, hm, hmm, hx, hE⟩
  · exact ⟨_, [], hcs, ⟨none, 0, rfl, Nat.le_refl _, Nat.zero_le _, .inl rfl⟩, fun s hs => by simp at hs, Nat.zero_le _⟩
  · simp only [if_true] at hmm
    obtain ⟨ab, off, spot⟩ := a
    have hR : ∀ k, k < len → ∃ s : RelV, ((-9223372036854775808 ≤ s.kind ∧ s.kind ≤ 9223372036854775807) ∧ 0 ≤ s.off ∧ s.off < 4294967296 ∧ 0 ≤ s.perm ∧ s.perm < 65536) ∧ spot = none ∧ ∀ j, j < 5 → W.cell? ⟨ab, off + k * 5 + j, none⟩ = (relRow s)[j]? := by
      intro k hk
      obtain ⟨cs', h1, h2⟩ := hE k (by omega)
      obtain ⟨s, rfl, hok⟩ := rel_cells h2
      obtain ⟨_, _, h3⟩ := World.cells?_some h1
      rw [ocRel] at h3
      obtain ⟨cs0, h10, h20⟩ := hE 0 (by omega)
      obtain ⟨s0, rfl, _⟩ := rel_cells h20
      obtain ⟨_, _, h30⟩ := World.cells?_some h10
      rw [ocRel] at h30
      have hc0 := h30 0 (by decide)
      have hspot : spot = none := by
        simp only [Nat.zero_mul, Addr.add_zero'] at hc0
        exact World.cell?_spot hc0
      subst hspot
      refine ⟨s, hok, rfl, fun j hj => ?_⟩
      have h4 := h3 j (by omega)
      rw [Addr.add_lit, Addr.add_lit] at h4
      exact h4
    haveI : Inhabited RelV := ⟨⟨0, 0, ⟨#[]⟩, ⟨#[]⟩, 0⟩⟩
    obtain ⟨R, hR⟩ := choose_lt hR
    refine ⟨_, (List.range len).map R, hcs, ⟨some ⟨ab, off, spot⟩, cap, by simp, by simpa using hl, hm, ?_⟩, ?_, by simp; omega⟩
    · by_cases h0 : len = 0
      · left; subst h0; rfl
      · obtain ⟨_, hsp, hc0⟩ := hR 0 (by omega)
        subst hsp
        refine .inr ⟨ab, off, rfl, ?_, fun i x hx => ?_⟩
        · have h := hc0 0 (by decide)
          exact World.block_lt_of_cell? _ _ h
        · have hi := (List.getElem?_eq_some_iff.1 hx).1
          rw [rows_length (k := 5) (fun _ => rfl)] at hi
          simp only [List.length_map, List.length_range] at hi
          have hk : i / 5 < len := Nat.div_lt_of_lt_mul (by omega)
          have hj : i % 5 < 5 := Nat.mod_lt _ (by decide)
          have e : i = i / 5 * 5 + i % 5 := by omega
          have h1 := rows_row (f := relRow) (k := 5) (fun _ => rfl) ((List.range len).map R) (i / 5) (i % 5) hj (R (i / 5)) (by simp [hk])
          rw [← e, hx] at h1
          have h2 := (hR (i / 5) hk).2.2 (i % 5) hj
          rw [← h1, Nat.add_assoc, ← e] at h2
          exact h2
    · intro s hs
      simp only [List.mem_map, List.mem_range] at hs
      obtain ⟨i, hi, rfl⟩ := hs
      exact (hR i hi).1
set_option maxRecDepth 100000 in
theorem obj_cells {fuel : Nat} {cs : List Value} {x : DataW H × List MemPlace} (hf : DataW.trod enc Tryz.prog W base (fun _ => true) true fuel 76 cs = some x) :
    ∃ (o : ObjV) (vc vd vs vr : Value), cs = [.string o.name, vc, vd, vs, vr] ∧ ObjAt W o vc vd vs vr ∧ ObjNum o ∧ (o.code.length ≤ maxLen ∧ o.data.length ≤ maxLen) ∧ o.syms.length ≤ maxLen ∧ o.rels.length ≤ maxLen := by
  obtain ⟨xs, n, _, hx, hsz, hlen, hg⟩ := DataW.trod_struct Tryz.underlying76 hf
  rw [ocObj] at hsz
  match cs, hsz, xs, hlen with
  | [c0, c1, c2, c3, c4], _, [y0, y1, y2, y3, y4], _ =>
    have g0 : DataW.trod enc Tryz.prog W base (fun _ => true) true n 9 [c0] = some y0 := by
      have h : DataW.trod enc Tryz.prog W base (fun _ => true) true n 9 ((List.drop 0 [c0, c1, c2, c3, c4]).take (Tryz.prog.cellsOf 9)) = some y0 := hg 0 _ rfl
      rw [ocStr] at h
      exact h
    have g1 : DataW.trod enc Tryz.prog W base (fun _ => true) true n 38 [c1] = some y1 := by
      have h : DataW.trod enc Tryz.prog W base (fun _ => true) true n 38 ((List.drop 1 [c0, c1, c2, c3, c4]).take (Tryz.prog.cellsOf 38)) = some y1 := hg 1 _ rfl
      rw [ocBytes] at h
      exact h
    have g2 : DataW.trod enc Tryz.prog W base (fun _ => true) true n 38 [c2] = some y2 := by
      have h : DataW.trod enc Tryz.prog W base (fun _ => true) true n 38 ((List.drop 2 [c0, c1, c2, c3, c4]).take (Tryz.prog.cellsOf 38)) = some y2 := hg 2 _ rfl
      rw [ocBytes] at h
      exact h
    have g3 : DataW.trod enc Tryz.prog W base (fun _ => true) true n 73 [c3] = some y3 := by
      have h : DataW.trod enc Tryz.prog W base (fun _ => true) true n 73 ((List.drop 3 [c0, c1, c2, c3, c4]).take (Tryz.prog.cellsOf 73)) = some y3 := hg 3 _ rfl
      rw [ocSyms] at h
      exact h
    have g4 : DataW.trod enc Tryz.prog W base (fun _ => true) true n 74 [c4] = some y4 := by
      have h : DataW.trod enc Tryz.prog W base (fun _ => true) true n 74 ((List.drop 4 [c0, c1, c2, c3, c4]).take (Tryz.prog.cellsOf 74)) = some y4 := hg 4 _ rfl
      rw [ocRels] at h
      exact h
    obtain ⟨s, e0, _, _⟩ := DataW.trod_string Tryz.underlying9 g0
    obtain ⟨vc, xc, e1, a1, b1, m1⟩ := bytes_cells g1
    obtain ⟨vd, xd, e2, a2, b2, m2⟩ := bytes_cells g2
    obtain ⟨vs, ls, e3, a3, b3, m3⟩ := sym_rows g3
    obtain ⟨vr, lr, e4, a4, b4, m4⟩ := rel_rows g4
    simp only [List.cons.injEq, and_true] at e0 e1 e2 e3 e4
    subst e0 e1 e2 e3 e4
    exact ⟨⟨s, xc, xd, ls, lr⟩, _, _, _, _, rfl, ⟨a1, a2, a3, a4⟩, ⟨b1, b2, b3, fun r hr => (b4 r hr).1, fun r hr => (b4 r hr).2⟩, ⟨m1, m2⟩, m3, m4⟩
set_option maxRecDepth 100000 in
/-- An object. -/
theorem open_obj {r : Reach} {b0 : Nat} {v : Value} {d : DataW H} {pl : List MemPlace} (hv : Value.okWide Tryz.prog W r b0 76 v) (h : DataW.Trod enc Tryz.prog W base (fun _ => true) true 76 v d pl) :
    ∃ (o : ObjV) (vc vd vs vr : Value), v = objVal o vc vd vs vr ∧ ObjAt W o vc vd vs vr ∧ ObjNum o ∧ (o.code.length ≤ maxLen ∧ o.data.length ≤ maxLen) ∧ o.syms.length ≤ maxLen ∧ o.rels.length ≤ maxLen := by
  obtain ⟨cs, rfl, hsz⟩ := okWide_struct Tryz.underlying76 hv
  obtain ⟨fuel, hf⟩ := h
  obtain ⟨o, vc, vd, vs, vr, hcs, rest⟩ := obj_cells hf
  obtain ⟨l⟩ := cs
  have hl : l = [.string o.name, vc, vd, vs, vr] := hcs
  subst hl
  exact ⟨o, vc, vd, vs, vr, rfl, rest⟩
end
end Go.Proofs.YtbmjnfnekmeegaaGreatDoor

/- A manifest as an argument: what lies there; by gen/man2.py. -/
namespace Go.Proofs.YtbmjnfnekmeegaaGreatDoor
set_option linter.unusedVariables false
set_option linter.unusedSimpArgs false
open Go.ChangeShapes Go.WideShapes Go.ChangeAt Go.RowKit Go.Deep
section
variable {H : Type} {enc : TypeId × Value → H} {W : World} {base : Nat}
theorem mcMan : Tryz.prog.cellsOf 29 = 7 := by kernel_rfl
theorem mcComp : Tryz.prog.cellsOf 86 = 2 := by kernel_rfl
theorem mcImp : Tryz.prog.cellsOf 27 = 3 := by kernel_rfl
theorem mcShr : Tryz.prog.cellsOf 92 = 2 := by kernel_rfl
theorem mcGrn : Tryz.prog.cellsOf 94 = 3 := by kernel_rfl
theorem mcStr : Tryz.prog.cellsOf 9 = 1 := by kernel_rfl
theorem mcU16 : Tryz.prog.cellsOf 78 = 1 := by kernel_rfl
theorem mcU32 : Tryz.prog.cellsOf 31 = 1 := by kernel_rfl
theorem mcComps : Tryz.prog.cellsOf 22 = 1 := by kernel_rfl
theorem mcImps : Tryz.prog.cellsOf 23 = 1 := by kernel_rfl
theorem mcShrs : Tryz.prog.cellsOf 24 = 1 := by kernel_rfl
theorem mcGrns : Tryz.prog.cellsOf 25 = 1 := by kernel_rfl
set_option maxRecDepth 100000 in
theorem mcomp_cells {fuel : Nat} {cs : List Value} {x : DataW H × List MemPlace} (hf : DataW.trod enc Tryz.prog W base (fun _ => true) true fuel 86 cs = some x) :
    ∃ s : CompV, cs = compRow s ∧ 0 ≤ s.stack ∧ s.stack < 4294967296 := by
  obtain ⟨xs, n, _, hx, hsz, hlen, hg⟩ := DataW.trod_struct Tryz.underlying86 hf
  rw [mcComp] at hsz
  match cs, hsz, xs, hlen with
  | [c0, c1], _, [y0, y1], _ =>
    have g0 : DataW.trod enc Tryz.prog W base (fun _ => true) true n 9 [c0] = some y0 := by
      have h : DataW.trod enc Tryz.prog W base (fun _ => true) true n 9 ((List.drop 0 [c0, c1]).take (Tryz.prog.cellsOf 9)) = some y0 := hg 0 _ rfl
      rw [mcStr] at h
      exact h
    have g1 : DataW.trod enc Tryz.prog W base (fun _ => true) true n 31 [c1] = some y1 := by
      have h : DataW.trod enc Tryz.prog W base (fun _ => true) true n 31 ((List.drop 1 [c0, c1]).take (Tryz.prog.cellsOf 31)) = some y1 := hg 1 _ rfl
      rw [mcU32] at h
      exact h
    obtain ⟨s, e0, _, _⟩ := DataW.trod_string Tryz.underlying9 g0
    obtain ⟨a, e1, _, w1⟩ := DataW.trod_int Tryz.underlying31 g1
    simp only [List.cons.injEq, and_true] at e0 e1
    subst e0 e1
    have b1 := bounds_u32 w1
    exact ⟨⟨s, a⟩, rfl, b1.1, by simp only; omega⟩
set_option maxRecDepth 100000 in
theorem mshr_cells {fuel : Nat} {cs : List Value} {x : DataW H × List MemPlace} (hf : DataW.trod enc Tryz.prog W base (fun _ => true) true fuel 92 cs = some x) :
    ∃ s : CompV, cs = compRow s ∧ 0 ≤ s.stack ∧ s.stack < 4294967296 := by
  obtain ⟨xs, n, _, hx, hsz, hlen, hg⟩ := DataW.trod_struct Tryz.underlying92 hf
  rw [mcShr] at hsz
  match cs, hsz, xs, hlen with
  | [c0, c1], _, [y0, y1], _ =>
    have g0 : DataW.trod enc Tryz.prog W base (fun _ => true) true n 9 [c0] = some y0 := by
      have h : DataW.trod enc Tryz.prog W base (fun _ => true) true n 9 ((List.drop 0 [c0, c1]).take (Tryz.prog.cellsOf 9)) = some y0 := hg 0 _ rfl
      rw [mcStr] at h
      exact h
    have g1 : DataW.trod enc Tryz.prog W base (fun _ => true) true n 31 [c1] = some y1 := by
      have h : DataW.trod enc Tryz.prog W base (fun _ => true) true n 31 ((List.drop 1 [c0, c1]).take (Tryz.prog.cellsOf 31)) = some y1 := hg 1 _ rfl
      rw [mcU32] at h
      exact h
    obtain ⟨s, e0, _, _⟩ := DataW.trod_string Tryz.underlying9 g0
    obtain ⟨a, e1, _, w1⟩ := DataW.trod_int Tryz.underlying31 g1
    simp only [List.cons.injEq, and_true] at e0 e1
    subst e0 e1
    have b1 := bounds_u32 w1
    exact ⟨⟨s, a⟩, rfl, b1.1, by simp only; omega⟩
set_option maxRecDepth 100000 in
theorem mimp_cells {fuel : Nat} {cs : List Value} {x : DataW H × List MemPlace} (hf : DataW.trod enc Tryz.prog W base (fun _ => true) true fuel 27 cs = some x) :
    ∃ s : ImpV, cs = impRow s ∧ True := by
  obtain ⟨xs, n, _, hx, hsz, hlen, hg⟩ := DataW.trod_struct Tryz.underlying27 hf
  rw [mcImp] at hsz
  match cs, hsz, xs, hlen with
  | [c0, c1, c2], _, [y0, y1, y2], _ =>
    have g0 : DataW.trod enc Tryz.prog W base (fun _ => true) true n 9 [c0] = some y0 := by
      have h : DataW.trod enc Tryz.prog W base (fun _ => true) true n 9 ((List.drop 0 [c0, c1, c2]).take (Tryz.prog.cellsOf 9)) = some y0 := hg 0 _ rfl
      rw [mcStr] at h
      exact h
    have g1 : DataW.trod enc Tryz.prog W base (fun _ => true) true n 9 [c1] = some y1 := by
      have h : DataW.trod enc Tryz.prog W base (fun _ => true) true n 9 ((List.drop 1 [c0, c1, c2]).take (Tryz.prog.cellsOf 9)) = some y1 := hg 1 _ rfl
      rw [mcStr] at h
      exact h
    have g2 : DataW.trod enc Tryz.prog W base (fun _ => true) true n 9 [c2] = some y2 := by
      have h : DataW.trod enc Tryz.prog W base (fun _ => true) true n 9 ((List.drop 2 [c0, c1, c2]).take (Tryz.prog.cellsOf 9)) = some y2 := hg 2 _ rfl
      rw [mcStr] at h
      exact h
    obtain ⟨a, e0, _, _⟩ := DataW.trod_string Tryz.underlying9 g0
    obtain ⟨b, e1, _, _⟩ := DataW.trod_string Tryz.underlying9 g1
    obtain ⟨c, e2, _, _⟩ := DataW.trod_string Tryz.underlying9 g2
    simp only [List.cons.injEq, and_true] at e0 e1 e2
    subst e0 e1 e2
    exact ⟨⟨a, b, c⟩, rfl, trivial⟩
set_option maxRecDepth 100000 in
theorem mgrn_cells {fuel : Nat} {cs : List Value} {x : DataW H × List MemPlace} (hf : DataW.trod enc Tryz.prog W base (fun _ => true) true fuel 94 cs = some x) :
    ∃ s : GrnV, cs = grnRow s ∧ 0 ≤ s.perm ∧ s.perm < 65536 := by
  obtain ⟨xs, n, _, hx, hsz, hlen, hg⟩ := DataW.trod_struct Tryz.underlying94 hf
  rw [mcGrn] at hsz
  match cs, hsz, xs, hlen with
  | [c0, c1, c2], _, [y0, y1, y2], _ =>
    have g0 : DataW.trod enc Tryz.prog W base (fun _ => true) true n 9 [c0] = some y0 := by
      have h : DataW.trod enc Tryz.prog W base (fun _ => true) true n 9 ((List.drop 0 [c0, c1, c2]).take (Tryz.prog.cellsOf 9)) = some y0 := hg 0 _ rfl
      rw [mcStr] at h
      exact h
    have g1 : DataW.trod enc Tryz.prog W base (fun _ => true) true n 9 [c1] = some y1 := by
      have h : DataW.trod enc Tryz.prog W base (fun _ => true) true n 9 ((List.drop 1 [c0, c1, c2]).take (Tryz.prog.cellsOf 9)) = some y1 := hg 1 _ rfl
      rw [mcStr] at h
      exact h
    have g2 : DataW.trod enc Tryz.prog W base (fun _ => true) true n 78 [c2] = some y2 := by
      have h : DataW.trod enc Tryz.prog W base (fun _ => true) true n 78 ((List.drop 2 [c0, c1, c2]).take (Tryz.prog.cellsOf 78)) = some y2 := hg 2 _ rfl
      rw [mcU16] at h
      exact h
    obtain ⟨a, e0, _, _⟩ := DataW.trod_string Tryz.underlying9 g0
    obtain ⟨b, e1, _, _⟩ := DataW.trod_string Tryz.underlying9 g1
    obtain ⟨c, e2, _, w2⟩ := DataW.trod_int Tryz.underlying78 g2
    simp only [List.cons.injEq, and_true] at e0 e1 e2
    subst e0 e1 e2
    have b2 := bounds_u16 w2
    exact ⟨⟨a, b, c⟩, rfl, b2.1, by simp only; omega⟩
set_option maxRecDepth 100000 in
theorem mcomp_rows {fuel : Nat} {cs : List Value} {x : DataW H × List MemPlace} (hf : DataW.trod enc Tryz.prog W base (fun _ => true) true fuel 22 cs = some x) :
    ∃ (v : Value) (l : List CompV), cs = [v] ∧ SlAt W v l.length (l.flatMap compRow) ∧ (∀ s ∈ l, 0 ≤ s.stack ∧ s.stack < 4294967296) ∧ l.length ≤ maxLen := by
  rcases open_slice Tryz.underlying22 hf with ⟨hcs, hx⟩ | ⟨a, len, cap, m, n, D, Pl, hcs, _, hl, hm, hmm, hx, hE⟩
  · exact ⟨_, [], hcs, ⟨none, 0, rfl, Nat.le_refl _, Nat.zero_le _, .inl rfl⟩, fun s hs => by simp at hs, Nat.zero_le _⟩
  · simp only [if_true] at hmm
    obtain ⟨ab, off, spot⟩ := a
    have hR : ∀ k, k < len → ∃ s : CompV, (0 ≤ s.stack ∧ s.stack < 4294967296) ∧ spot = none ∧ ∀ j, j < 2 → W.cell? ⟨ab, off + k * 2 + j, none⟩ = (compRow s)[j]? := by
      intro k hk
      obtain ⟨cs', h1, h2⟩ := hE k (by omega)
      obtain ⟨s, rfl, hok⟩ := mcomp_cells h2
      obtain ⟨_, _, h3⟩ := World.cells?_some h1
      rw [mcComp] at h3
      obtain ⟨cs0, h10, h20⟩ := hE 0 (by omega)
      obtain ⟨s0, rfl, _⟩ := mcomp_cells h20
      obtain ⟨_, _, h30⟩ := World.cells?_some h10
      rw [mcComp] at h30
      have hc0 := h30 0 (by decide)
      have hspot : spot = none := by
        simp only [Nat.zero_mul, Addr.add_zero'] at hc0
        exact World.cell?_spot hc0
      subst hspot
      refine ⟨s, hok, rfl, fun j hj => ?_⟩
      have h4 := h3 j (by omega)
      rw [Addr.add_lit, Addr.add_lit] at h4
      exact h4
    haveI : Inhabited CompV := ⟨⟨⟨#[]⟩, 0⟩⟩
    obtain ⟨R, hR⟩ := choose_lt hR
    refine ⟨_, (List.range len).map R, hcs, ⟨some ⟨ab, off, spot⟩, cap, by simp, by simpa using hl, hm, ?_⟩, ?_, by simp; omega⟩
    · by_cases h0 : len = 0
      · left; subst h0; rfl
      · obtain ⟨_, hsp, hc0⟩ := hR 0 (by omega)
        subst hsp
        refine .inr ⟨ab, off, rfl, ?_, fun i x hx => ?_⟩
        · have h := hc0 0 (by decide)
          exact World.block_lt_of_cell? _ _ h
        · have hi := (List.getElem?_eq_some_iff.1 hx).1
          rw [rows_length (k := 2) (fun _ => rfl)] at hi
          simp only [List.length_map, List.length_range] at hi
          have hk : i / 2 < len := Nat.div_lt_of_lt_mul (by omega)
          have hj : i % 2 < 2 := Nat.mod_lt _ (by decide)
          have e : i = i / 2 * 2 + i % 2 := by omega
          have h1 := rows_row (f := compRow) (k := 2) (fun _ => rfl) ((List.range len).map R) (i / 2) (i % 2) hj (R (i / 2)) (by simp [hk])
          rw [← e, hx] at h1
          have h2 := (hR (i / 2) hk).2.2 (i % 2) hj
          rw [← h1, Nat.add_assoc, ← e] at h2
          exact h2
    · intro s hs
      simp only [List.mem_map, List.mem_range] at hs
      obtain ⟨i, hi, rfl⟩ := hs
      exact (hR i hi).1
set_option maxRecDepth 100000 in
theorem mshr_rows {fuel : Nat} {cs : List Value} {x : DataW H × List MemPlace} (hf : DataW.trod enc Tryz.prog W base (fun _ => true) true fuel 24 cs = some x) :
    ∃ (v : Value) (l : List CompV), cs = [v] ∧ SlAt W v l.length (l.flatMap compRow) ∧ (∀ s ∈ l, 0 ≤ s.stack ∧ s.stack < 4294967296) ∧ l.length ≤ maxLen := by
  rcases open_slice Tryz.underlying24 hf with ⟨hcs, hx⟩ | ⟨a, len, cap, m, n, D, Pl, hcs, _, hl, hm, hmm, hx, hE⟩
  · exact ⟨_, [], hcs, ⟨none, 0, rfl, Nat.le_refl _, Nat.zero_le _, .inl rfl⟩, fun s hs => by simp at hs, Nat.zero_le _⟩
  · simp only [if_true] at hmm
    obtain ⟨ab, off, spot⟩ := a
    have hR : ∀ k, k < len → ∃ s : CompV, (0 ≤ s.stack ∧ s.stack < 4294967296) ∧ spot = none ∧ ∀ j, j < 2 → W.cell? ⟨ab, off + k * 2 + j, none⟩ = (compRow s)[j]? := by
      intro k hk
      obtain ⟨cs', h1, h2⟩ := hE k (by omega)
      obtain ⟨s, rfl, hok⟩ := mshr_cells h2
      obtain ⟨_, _, h3⟩ := World.cells?_some h1
      rw [mcShr] at h3
      obtain ⟨cs0, h10, h20⟩ := hE 0 (by omega)
      obtain ⟨s0, rfl, _⟩ := mshr_cells h20
      obtain ⟨_, _, h30⟩ := World.cells?_some h10
      rw [mcShr] at h30
      have hc0 := h30 0 (by decide)
      have hspot : spot = none := by
        simp only [Nat.zero_mul, Addr.add_zero'] at hc0
        exact World.cell?_spot hc0
      subst hspot
      refine ⟨s, hok, rfl, fun j hj => ?_⟩
      have h4 := h3 j (by omega)
      rw [Addr.add_lit, Addr.add_lit] at h4
      exact h4
    haveI : Inhabited CompV := ⟨⟨⟨#[]⟩, 0⟩⟩
    obtain ⟨R, hR⟩ := choose_lt hR
    refine ⟨_, (List.range len).map R, hcs, ⟨some ⟨ab, off, spot⟩, cap, by simp, by simpa using hl, hm, ?_⟩, ?_, by simp; omega⟩
    · by_cases h0 : len = 0
      · left; subst h0; rfl
      · obtain ⟨_, hsp, hc0⟩ := hR 0 (by omega)
        subst hsp
        refine .inr ⟨ab, off, rfl, ?_, fun i x hx => ?_⟩
        · have h := hc0 0 (by decide)
          exact World.block_lt_of_cell? _ _ h
        · have hi := (List.getElem?_eq_some_iff.1 hx).1
          rw [rows_length (k := 2) (fun _ => rfl)] at hi
          simp only [List.length_map, List.length_range] at hi
          have hk : i / 2 < len := Nat.div_lt_of_lt_mul (by omega)
          have hj : i % 2 < 2 := Nat.mod_lt _ (by decide)
          have e : i = i / 2 * 2 + i % 2 := by omega
          have h1 := rows_row (f := compRow) (k := 2) (fun _ => rfl) ((List.range len).map R) (i / 2) (i % 2) hj (R (i / 2)) (by simp [hk])
          rw [← e, hx] at h1
          have h2 := (hR (i / 2) hk).2.2 (i % 2) hj
          rw [← h1, Nat.add_assoc, ← e] at h2
          exact h2
    · intro s hs
      simp only [List.mem_map, List.mem_range] at hs
      obtain ⟨i, hi, rfl⟩ := hs
      exact (hR i hi).1
set_option maxRecDepth 100000 in
theorem mimp_rows {fuel : Nat} {cs : List Value} {x : DataW H × List MemPlace} (hf : DataW.trod enc Tryz.prog W base (fun _ => true) true fuel 23 cs = some x) :
    ∃ (v : Value) (l : List ImpV), cs = [v] ∧ SlAt W v l.length (l.flatMap impRow) ∧ (∀ s ∈ l, True) ∧ l.length ≤ maxLen := by
  rcases open_slice Tryz.underlying23 hf with ⟨hcs, hx⟩ | ⟨a, len, cap, m, n, D, Pl, hcs, _, hl, hm, hmm, hx, hE⟩
  · exact ⟨_, [], hcs, ⟨none, 0, rfl, Nat.le_refl _, Nat.zero_le _, .inl rfl⟩, fun s hs => by simp at hs, Nat.zero_le _⟩
  · simp only [if_true] at hmm
    obtain ⟨ab, off, spot⟩ := a
    have hR : ∀ k, k < len → ∃ s : ImpV, (True) ∧ spot = none ∧ ∀ j, j < 3 → W.cell? ⟨ab, off + k * 3 + j, none⟩ = (impRow s)[j]? := by
      intro k hk
      obtain ⟨cs', h1, h2⟩ := hE k (by omega)
      obtain ⟨s, rfl, hok⟩ := mimp_cells h2
      obtain ⟨_, _, h3⟩ := World.cells?_some h1
      rw [mcImp] at h3
      obtain ⟨cs0, h10, h20⟩ := hE 0 (by omega)
      obtain ⟨s0, rfl, _⟩ := mimp_cells h20
      obtain ⟨_, _, h30⟩ := World.cells?_some h10
      rw [mcImp] at h30
      have hc0 := h30 0 (by decide)
      have hspot : spot = none := by
        simp only [Nat.zero_mul, Addr.add_zero'] at hc0
        exact World.cell?_spot hc0
      subst hspot
      refine ⟨s, hok, rfl, fun j hj => ?_⟩
      have h4 := h3 j (by omega)
      rw [Addr.add_lit, Addr.add_lit] at h4
      exact h4
    haveI : Inhabited ImpV := ⟨⟨⟨#[]⟩, ⟨#[]⟩, ⟨#[]⟩⟩⟩
    obtain ⟨R, hR⟩ := choose_lt hR
    refine ⟨_, (List.range len).map R, hcs, ⟨some ⟨ab, off, spot⟩, cap, by simp, by simpa using hl, hm, ?_⟩, ?_, by simp; omega⟩
    · by_cases h0 : len = 0
      · left; subst h0; rfl
      · obtain ⟨_, hsp, hc0⟩ := hR 0 (by omega)
        subst hsp
        refine .inr ⟨ab, off, rfl, ?_, fun i x hx => ?_⟩
        · have h := hc0 0 (by decide)
          exact World.block_lt_of_cell? _ _ h
        · have hi := (List.getElem?_eq_some_iff.1 hx).1
          rw [rows_length (k := 3) (fun _ => rfl)] at hi
          simp only [List.length_map, List.length_range] at hi
          have hk : i / 3 < len := Nat.div_lt_of_lt_mul (by omega)
          have hj : i % 3 < 3 := Nat.mod_lt _ (by decide)
          have e : i = i / 3 * 3 + i % 3 := by omega
          have h1 := rows_row (f := impRow) (k := 3) (fun _ => rfl) ((List.range len).map R) (i / 3) (i % 3) hj (R (i / 3)) (by simp [hk])
          rw [← e, hx] at h1
          have h2 := (hR (i / 3) hk).2.2 (i % 3) hj
          rw [← h1, Nat.add_assoc, ← e] at h2
          exact h2
    · intro s hs
      simp only [List.mem_map, List.mem_range] at hs
      obtain ⟨i, hi, rfl⟩ := hs
      exact (hR i hi).1
set_option maxRecDepth 100000 in
theorem mgrn_rows {fuel : Nat} {cs : List Value} {x : DataW H × List MemPlace} (hf : DataW.trod enc Tryz.prog W base (fun _ => true) true fuel 25 cs = some x) :
    ∃ (v : Value) (l : List GrnV), cs = [v] ∧ SlAt W v l.length (l.flatMap grnRow) ∧ (∀ s ∈ l, 0 ≤ s.perm ∧ s.perm < 65536) ∧ l.length ≤ maxLen := by
  rcases open_slice Tryz.underlying25 hf with ⟨hcs, hx⟩ | ⟨a, len, cap, m, n, D, Pl, hcs, _, hl, hm, hmm, hx, hE⟩
  · exact ⟨_, [], hcs, ⟨none, 0, rfl, Nat.le_refl _, Nat.zero_le _, .inl rfl⟩, fun s hs => by simp at hs, Nat.zero_le _⟩
  · simp only [if_true] at hmm
    obtain ⟨ab, off, spot⟩ := a
    have hR : ∀ k, k < len → ∃ s : GrnV, (0 ≤ s.perm ∧ s.perm < 65536) ∧ spot = none ∧ ∀ j, j < 3 → W.cell? ⟨ab, off + k * 3 + j, none⟩ = (grnRow s)[j]? := by
      intro k hk
      obtain ⟨cs', h1, h2⟩ := hE k (by omega)
      obtain ⟨s, rfl, hok⟩ := mgrn_cells h2
      obtain ⟨_, _, h3⟩ := World.cells?_some h1
      rw [mcGrn] at h3
      obtain ⟨cs0, h10, h20⟩ := hE 0 (by omega)
      obtain ⟨s0, rfl, _⟩ := mgrn_cells h20
      obtain ⟨_, _, h30⟩ := World.cells?_some h10
      rw [mcGrn] at h30
      have hc0 := h30 0 (by decide)
      have hspot : spot = none := by
        simp only [Nat.zero_mul, Addr.add_zero'] at hc0
        exact World.cell?_spot hc0
      subst hspot
      refine ⟨s, hok, rfl, fun j hj => ?_⟩
      have h4 := h3 j (by omega)
      rw [Addr.add_lit, Addr.add_lit] at h4
      exact h4
    haveI : Inhabited GrnV := ⟨⟨⟨#[]⟩, ⟨#[]⟩, 0⟩⟩
    obtain ⟨R, hR⟩ := choose_lt hR
    refine ⟨_, (List.range len).map R, hcs, ⟨some ⟨ab, off, spot⟩, cap, by simp, by simpa using hl, hm, ?_⟩, ?_, by simp; omega⟩
    · by_cases h0 : len = 0
      · left; subst h0; rfl
      · obtain ⟨_, hsp, hc0⟩ := hR 0 (by omega)
        subst hsp
        refine .inr ⟨ab, off, rfl, ?_, fun i x hx => ?_⟩
        · have h := hc0 0 (by decide)
          exact World.block_lt_of_cell? _ _ h
        · have hi := (List.getElem?_eq_some_iff.1 hx).1
          rw [rows_length (k := 3) (fun _ => rfl)] at hi
          simp only [List.length_map, List.length_range] at hi
          have hk : i / 3 < len := Nat.div_lt_of_lt_mul (by omega)
          have hj : i % 3 < 3 := Nat.mod_lt _ (by decide)
          have e : i = i / 3 * 3 + i % 3 := by omega
          have h1 := rows_row (f := grnRow) (k := 3) (fun _ => rfl) ((List.range len).map R) (i / 3) (i % 3) hj (R (i / 3)) (by simp [hk])
          rw [← e, hx] at h1
          have h2 := (hR (i / 3) hk).2.2 (i % 3) hj
          rw [← h1, Nat.add_assoc, ← e] at h2
          exact h2
    · intro s hs
      simp only [List.mem_map, List.mem_range] at hs
      obtain ⟨i, hi, rfl⟩ := hs
      exact (hR i hi).1
set_option maxRecDepth 100000 in
theorem man_cells {fuel : Nat} {cs : List Value} {x : DataW H × List MemPlace} (hf : DataW.trod enc Tryz.prog W base (fun _ => true) true fuel 29 cs = some x) :
    ∃ (m : ManV) (vc vi vs vg : Value), cs = [vc, vi, vs, vg, .string m.start.comp, .string m.start.from_, .string m.start.name] ∧ ManAt W m vc vi vs vg ∧ Nat32 m.comps ∧ Nat32 m.shrs ∧ (∀ g ∈ m.grns, 0 ≤ g.perm ∧ g.perm < 65536) ∧ m.comps.length ≤ maxLen ∧ m.imps.length ≤ maxLen ∧ m.shrs.length ≤ maxLen ∧ m.grns.length ≤ maxLen := by
  obtain ⟨xs, n, _, hx, hsz, hlen, hg⟩ := DataW.trod_struct Tryz.underlying29 hf
  rw [mcMan] at hsz
  match cs, hsz, xs, hlen with
  | [c0, c1, c2, c3, c4, c5, c6], _, [y0, y1, y2, y3, y4], _ =>
    have g0 : DataW.trod enc Tryz.prog W base (fun _ => true) true n 22 [c0] = some y0 := by
      have h : DataW.trod enc Tryz.prog W base (fun _ => true) true n 22 ((List.drop 0 [c0, c1, c2, c3, c4, c5, c6]).take (Tryz.prog.cellsOf 22)) = some y0 := hg 0 _ rfl
      rw [mcComps] at h
      exact h
    have g1 : DataW.trod enc Tryz.prog W base (fun _ => true) true n 23 [c1] = some y1 := by
      have h : DataW.trod enc Tryz.prog W base (fun _ => true) true n 23 ((List.drop 1 [c0, c1, c2, c3, c4, c5, c6]).take (Tryz.prog.cellsOf 23)) = some y1 := hg 1 _ rfl
      rw [mcImps] at h
      exact h
    have g2 : DataW.trod enc Tryz.prog W base (fun _ => true) true n 24 [c2] = some y2 := by
      have h : DataW.trod enc Tryz.prog W base (fun _ => true) true n 24 ((List.drop 2 [c0, c1, c2, c3, c4, c5, c6]).take (Tryz.prog.cellsOf 24)) = some y2 := hg 2 _ rfl
      rw [mcShrs] at h
      exact h
    have g3 : DataW.trod enc Tryz.prog W base (fun _ => true) true n 25 [c3] = some y3 := by
      have h : DataW.trod enc Tryz.prog W base (fun _ => true) true n 25 ((List.drop 3 [c0, c1, c2, c3, c4, c5, c6]).take (Tryz.prog.cellsOf 25)) = some y3 := hg 3 _ rfl
      rw [mcGrns] at h
      exact h
    have g4 : DataW.trod enc Tryz.prog W base (fun _ => true) true n 27 [c4, c5, c6] = some y4 := by
      have h : DataW.trod enc Tryz.prog W base (fun _ => true) true n 27 ((List.drop 4 [c0, c1, c2, c3, c4, c5, c6]).take (Tryz.prog.cellsOf 27)) = some y4 := hg 4 _ rfl
      rw [mcImp] at h
      exact h
    obtain ⟨vc, lc, e0, a0, b0, m0⟩ := mcomp_rows g0
    obtain ⟨vi, li, e1, a1, _, m1⟩ := mimp_rows g1
    obtain ⟨vs, ls, e2, a2, b2, m2⟩ := mshr_rows g2
    obtain ⟨vg, lg, e3, a3, b3, m3⟩ := mgrn_rows g3
    obtain ⟨s, e4, _⟩ := mimp_cells g4
    unfold impRow at e4
    simp only [List.cons.injEq, and_true] at e0 e1 e2 e3 e4
    obtain ⟨e41, e42, e43⟩ := e4
    subst e0 e1 e2 e3 e41 e42 e43
    exact ⟨⟨lc, li, ls, lg, s⟩, _, _, _, _, rfl, ⟨a0, a1, a2, a3⟩, b0, b2, b3, m0, m1, m2, m3⟩
set_option maxRecDepth 100000 in
/-- A manifest. -/
theorem open_man {r : Reach} {b0 : Nat} {v : Value} {d : DataW H} {pl : List MemPlace} (hv : Value.okWide Tryz.prog W r b0 29 v) (h : DataW.Trod enc Tryz.prog W base (fun _ => true) true 29 v d pl) :
    ∃ (m : ManV) (vc vi vs vg : Value), v = manVal m vc vi vs vg ∧ ManAt W m vc vi vs vg ∧ Nat32 m.comps ∧ Nat32 m.shrs ∧ (∀ g ∈ m.grns, 0 ≤ g.perm ∧ g.perm < 65536) ∧ m.comps.length ≤ maxLen ∧ m.imps.length ≤ maxLen ∧ m.shrs.length ≤ maxLen ∧ m.grns.length ≤ maxLen := by
  obtain ⟨cs, rfl, hsz⟩ := okWide_struct Tryz.underlying29 hv
  obtain ⟨fuel, hf⟩ := h
  obtain ⟨m, vc, vi, vs, vg, hcs, rest⟩ := man_cells hf
  obtain ⟨l⟩ := cs
  have hl : l = [vc, vi, vs, vg, .string m.start.comp, .string m.start.from_, .string m.start.name] := hcs
  subst hl
  exact ⟨m, vc, vi, vs, vg, rfl, rest⟩
end
end Go.Proofs.YtbmjnfnekmeegaaGreatDoor

/- Objects as an argument: what lies there; by gen/man2.py. -/
namespace Go.Proofs.YtbmjnfnekmeegaaGreatDoor
set_option linter.unusedVariables false
set_option linter.unusedSimpArgs false
open Go.ChangeShapes Go.WideShapes Go.ChangeAt Go.RowKit Go.Deep
section
variable {H : Type} {enc : TypeId × Value → H} {W : World} {base : Nat}
theorem lcObjs : Tryz.prog.cellsOf 30 = 1 := by kernel_rfl
set_option maxRecDepth 100000 in
theorem lobj_cells {fuel : Nat} {cs : List Value} {x : DataW H × List MemPlace} (hf : DataW.trod enc Tryz.prog W base (fun _ => true) true fuel 76 cs = some x) : ∃ s : ObjV × V4, cs = objRow s ∧ ObjAt W s.1 s.2.1 s.2.2.1 s.2.2.2.1 s.2.2.2.2 ∧ ObjNum s.1 ∧ (s.1.code.length ≤ maxLen ∧ s.1.data.length ≤ maxLen) ∧ s.1.syms.length ≤ maxLen ∧ s.1.rels.length ≤ maxLen := by
  obtain ⟨o, vc, vd, vs, vr, e, rest⟩ := obj_cells hf
  exact ⟨(o, vc, vd, vs, vr), e, rest⟩
set_option maxRecDepth 100000 in
theorem lobj_rows {fuel : Nat} {cs : List Value} {x : DataW H × List MemPlace} (hf : DataW.trod enc Tryz.prog W base (fun _ => true) true fuel 30 cs = some x) :
    ∃ (v : Value) (l : List (ObjV × V4)), cs = [v] ∧ SlAt W v l.length (l.flatMap objRow) ∧ (∀ s ∈ l, ObjAt W s.1 s.2.1 s.2.2.1 s.2.2.2.1 s.2.2.2.2 ∧ ObjNum s.1 ∧ (s.1.code.length ≤ maxLen ∧ s.1.data.length ≤ maxLen) ∧ s.1.syms.length ≤ maxLen ∧ s.1.rels.length ≤ maxLen) ∧ l.length ≤ maxLen := by
  rcases open_slice Tryz.underlying30 hf with ⟨hcs, hx⟩ | ⟨a, len, cap, m, n, D, Pl, hcs, _, hl, hm, hmm, hx, hE⟩
  · exact ⟨_, [], hcs, ⟨none, 0, rfl, Nat.le_refl _, Nat.zero_le _, .inl rfl⟩, fun s hs => by simp at hs, Nat.zero_le _⟩
  · simp only [if_true] at hmm
    obtain ⟨ab, off, spot⟩ := a
    have hR : ∀ k, k < len → ∃ s : (ObjV × V4), (ObjAt W s.1 s.2.1 s.2.2.1 s.2.2.2.1 s.2.2.2.2 ∧ ObjNum s.1 ∧ (s.1.code.length ≤ maxLen ∧ s.1.data.length ≤ maxLen) ∧ s.1.syms.length ≤ maxLen ∧ s.1.rels.length ≤ maxLen) ∧ spot = none ∧ ∀ j, j < 5 → W.cell? ⟨ab, off + k * 5 + j, none⟩ = (objRow s)[j]? := by
      intro k hk
      obtain ⟨cs', h1, h2⟩ := hE k (by omega)
      obtain ⟨s, rfl, hok⟩ := lobj_cells h2
      obtain ⟨_, _, h3⟩ := World.cells?_some h1
      rw [ocObj] at h3
      obtain ⟨cs0, h10, h20⟩ := hE 0 (by omega)
      obtain ⟨s0, rfl, _⟩ := lobj_cells h20
      obtain ⟨_, _, h30⟩ := World.cells?_some h10
      rw [ocObj] at h30
      have hc0 := h30 0 (by decide)
      have hspot : spot = none := by
        simp only [Nat.zero_mul, Addr.add_zero'] at hc0
        exact World.cell?_spot hc0
      subst hspot
      refine ⟨s, hok, rfl, fun j hj => ?_⟩
      have h4 := h3 j (by omega)
      rw [Addr.add_lit, Addr.add_lit] at h4
      exact h4
    haveI : Inhabited (ObjV × V4) := ⟨(noObj, .nilIface, .nilIface, .nilIface, .nilIface)⟩
    obtain ⟨R, hR⟩ := choose_lt hR
    refine ⟨_, (List.range len).map R, hcs, ⟨some ⟨ab, off, spot⟩, cap, by simp, by simpa using hl, hm, ?_⟩, ?_, by simp; omega⟩
    · by_cases h0 : len = 0
      · left; subst h0; rfl
      · obtain ⟨_, hsp, hc0⟩ := hR 0 (by omega)
        subst hsp
        refine .inr ⟨ab, off, rfl, ?_, fun i x hx => ?_⟩
        · have h := hc0 0 (by decide)
          exact World.block_lt_of_cell? _ _ h
        · have hi := (List.getElem?_eq_some_iff.1 hx).1
          rw [rows_length (k := 5) (fun _ => rfl)] at hi
          simp only [List.length_map, List.length_range] at hi
          have hk : i / 5 < len := Nat.div_lt_of_lt_mul (by omega)
          have hj : i % 5 < 5 := Nat.mod_lt _ (by decide)
          have e : i = i / 5 * 5 + i % 5 := by omega
          have h1 := rows_row (f := objRow) (k := 5) (fun _ => rfl) ((List.range len).map R) (i / 5) (i % 5) hj (R (i / 5)) (by simp [hk])
          rw [← e, hx] at h1
          have h2 := (hR (i / 5) hk).2.2 (i % 5) hj
          rw [← h1, Nat.add_assoc, ← e] at h2
          exact h2
    · intro s hs
      simp only [List.mem_map, List.mem_range] at hs
      obtain ⟨i, hi, rfl⟩ := hs
      exact (hR i hi).1
set_option maxRecDepth 100000 in
/-- Objects. -/
theorem open_objs {r : Reach} {b0 : Nat} {v : Value} {d : DataW H} {pl : List MemPlace} (hv : Value.okWide Tryz.prog W r b0 30 v) (h : DataW.Trod enc Tryz.prog W base (fun _ => true) true 30 v d pl) :
    ∃ (l : List ObjV) (qs : List V4), ObjsAt W v l qs ∧ (∀ o ∈ l, ObjNum o ∧ o.code.length ≤ maxLen ∧ o.data.length ≤ maxLen ∧ o.syms.length ≤ maxLen ∧ o.rels.length ≤ maxLen) ∧ l.length ≤ maxLen := by
  obtain ⟨a0, len, cap, rfl⟩ := Go.WideShapes.okWide_slice Tryz.underlying30 hv
  obtain ⟨fuel, hf⟩ := h
  obtain ⟨v', l, e, hs, hok, hl⟩ := lobj_rows hf
  simp only [Value.cells, List.cons.injEq, and_true] at e
  subst e
  refine ⟨l.map Prod.fst, l.map Prod.snd, ⟨?_, by simp, ?_⟩, ?_, by simpa using hl⟩
  · rw [lzip_split]; simpa using hs
  · intro k o q ho hq
    simp only [List.getElem?_map, Option.map_eq_some_iff] at ho hq
    obtain ⟨s, hs', rfl⟩ := ho
    obtain ⟨s', hs'', rfl⟩ := hq
    rw [hs'] at hs''
    cases hs''
    exact (hok s (List.mem_of_getElem? hs')).1
  · intro o ho
    simp only [List.mem_map] at ho
    obtain ⟨q, hq, rfl⟩ := ho
    have := hok q hq
    exact ⟨this.2.1, this.2.2.1.1, this.2.2.1.2, this.2.2.2.1, this.2.2.2.2⟩
end
end Go.Proofs.YtbmjnfnekmeegaaGreatDoor
