/- An object as an argument: what lies there. -/
import Derived.Test.YtahnbeoacdnhjaaDoorObjFind
import Derived.Test.YtahnbeoacdnhjaaDoorChecked
import Derived.ProofKit
import Derived.OpenShut
import Derived.WideKeyArgs
import Derived.ChangeSlices
import Derived.ChangeMaps5
import Derived.Deep.Slices
import Derived.Deep.Fields
namespace Go.Proofs.YtahnbeoacdnhjaaDoor
set_option linter.unusedVariables false
set_option linter.unusedSimpArgs false
open Go.ChangeShapes Go.WideShapes Go.ChangeAt Go.RowKit Go.Deep
section
variable {H : Type} {enc : TypeId × Value → H} {W : World} {base : Nat}
theorem ocObj : Tryd.prog.cellsOf 26 = 5 := by kernel_rfl
theorem ocSym : Tryd.prog.cellsOf 47 = 4 := by kernel_rfl
theorem ocRel : Tryd.prog.cellsOf 49 = 5 := by kernel_rfl
theorem ocStr : Tryd.prog.cellsOf 9 = 1 := by kernel_rfl
theorem ocBool : Tryd.prog.cellsOf 4 = 1 := by kernel_rfl
theorem ocInt : Tryd.prog.cellsOf 3 = 1 := by kernel_rfl
theorem ocU8 : Tryd.prog.cellsOf 5 = 1 := by kernel_rfl
theorem ocU16 : Tryd.prog.cellsOf 27 = 1 := by kernel_rfl
theorem ocU32 : Tryd.prog.cellsOf 45 = 1 := by kernel_rfl
theorem ocBytes : Tryd.prog.cellsOf 22 = 1 := by kernel_rfl
theorem ocSyms : Tryd.prog.cellsOf 23 = 1 := by kernel_rfl
theorem ocRels : Tryd.prog.cellsOf 24 = 1 := by kernel_rfl
set_option maxRecDepth 100000 in
theorem sym_cells {fuel : Nat} {cs : List Value} {x : DataW H × List MemPlace} (hf : DataW.trod enc Tryd.prog W base (fun _ => true) true fuel 47 cs = some x) :
    ∃ s : SymV, cs = symRow s ∧ SymOk s := by
  obtain ⟨xs, n, _, hx, hsz, hlen, hg⟩ := DataW.trod_struct Tryd.underlying47 hf
  rw [ocSym] at hsz
  match cs, hsz, xs, hlen with
  | [c0, c1, c2, c3], _, [y0, y1, y2, y3], _ =>
    have g0 : DataW.trod enc Tryd.prog W base (fun _ => true) true n 9 [c0] = some y0 := by
      have h : DataW.trod enc Tryd.prog W base (fun _ => true) true n 9 ((List.drop 0 [c0, c1, c2, c3]).take (Tryd.prog.cellsOf 9)) = some y0 := hg 0 _ rfl
      rw [ocStr] at h
      exact h
    have g1 : DataW.trod enc Tryd.prog W base (fun _ => true) true n 4 [c1] = some y1 := by
      have h : DataW.trod enc Tryd.prog W base (fun _ => true) true n 4 ((List.drop 1 [c0, c1, c2, c3]).take (Tryd.prog.cellsOf 4)) = some y1 := hg 1 _ rfl
      rw [ocBool] at h
      exact h
    have g2 : DataW.trod enc Tryd.prog W base (fun _ => true) true n 45 [c2] = some y2 := by
      have h : DataW.trod enc Tryd.prog W base (fun _ => true) true n 45 ((List.drop 2 [c0, c1, c2, c3]).take (Tryd.prog.cellsOf 45)) = some y2 := hg 2 _ rfl
      rw [ocU32] at h
      exact h
    have g3 : DataW.trod enc Tryd.prog W base (fun _ => true) true n 4 [c3] = some y3 := by
      have h : DataW.trod enc Tryd.prog W base (fun _ => true) true n 4 ((List.drop 3 [c0, c1, c2, c3]).take (Tryd.prog.cellsOf 4)) = some y3 := hg 3 _ rfl
      rw [ocBool] at h
      exact h
    obtain ⟨s, e0, _, _⟩ := DataW.trod_string Tryd.underlying9 g0
    obtain ⟨d, e1, _⟩ := DataW.trod_bool Tryd.underlying4 g1
    obtain ⟨o, e2, _, w2⟩ := DataW.trod_int Tryd.underlying45 g2
    obtain ⟨x, e3, _⟩ := DataW.trod_bool Tryd.underlying4 g3
    simp only [List.cons.injEq, and_true] at e0 e1 e2 e3
    subst e0 e1 e2 e3
    have hb := bounds_u32 w2
    exact ⟨⟨s, d, o, x⟩, rfl, hb.1, by simp only; omega⟩
set_option maxRecDepth 100000 in
theorem rel_cells {fuel : Nat} {cs : List Value} {x : DataW H × List MemPlace} (hf : DataW.trod enc Tryd.prog W base (fun _ => true) true fuel 49 cs = some x) :
    ∃ r : RelV, cs = relRow r ∧ (-9223372036854775808 ≤ r.kind ∧ r.kind ≤ 9223372036854775807) ∧ 0 ≤ r.off ∧ r.off < 4294967296 ∧ 0 ≤ r.perm ∧ r.perm < 65536 := by
  obtain ⟨xs, n, _, hx, hsz, hlen, hg⟩ := DataW.trod_struct Tryd.underlying49 hf
  rw [ocRel] at hsz
  match cs, hsz, xs, hlen with
  | [c0, c1, c2, c3, c4], _, [y0, y1, y2, y3, y4], _ =>
    have g0 : DataW.trod enc Tryd.prog W base (fun _ => true) true n 3 [c0] = some y0 := by
      have h : DataW.trod enc Tryd.prog W base (fun _ => true) true n 3 ((List.drop 0 [c0, c1, c2, c3, c4]).take (Tryd.prog.cellsOf 3)) = some y0 := hg 0 _ rfl
      rw [ocInt] at h
      exact h
    have g1 : DataW.trod enc Tryd.prog W base (fun _ => true) true n 45 [c1] = some y1 := by
      have h : DataW.trod enc Tryd.prog W base (fun _ => true) true n 45 ((List.drop 1 [c0, c1, c2, c3, c4]).take (Tryd.prog.cellsOf 45)) = some y1 := hg 1 _ rfl
      rw [ocU32] at h
      exact h
    have g2 : DataW.trod enc Tryd.prog W base (fun _ => true) true n 9 [c2] = some y2 := by
      have h : DataW.trod enc Tryd.prog W base (fun _ => true) true n 9 ((List.drop 2 [c0, c1, c2, c3, c4]).take (Tryd.prog.cellsOf 9)) = some y2 := hg 2 _ rfl
      rw [ocStr] at h
      exact h
    have g3 : DataW.trod enc Tryd.prog W base (fun _ => true) true n 9 [c3] = some y3 := by
      have h : DataW.trod enc Tryd.prog W base (fun _ => true) true n 9 ((List.drop 3 [c0, c1, c2, c3, c4]).take (Tryd.prog.cellsOf 9)) = some y3 := hg 3 _ rfl
      rw [ocStr] at h
      exact h
    have g4 : DataW.trod enc Tryd.prog W base (fun _ => true) true n 27 [c4] = some y4 := by
      have h : DataW.trod enc Tryd.prog W base (fun _ => true) true n 27 ((List.drop 4 [c0, c1, c2, c3, c4]).take (Tryd.prog.cellsOf 27)) = some y4 := hg 4 _ rfl
      rw [ocU16] at h
      exact h
    obtain ⟨k, e0, _, w0⟩ := DataW.trod_int Tryd.underlying3 g0
    obtain ⟨o, e1, _, w1⟩ := DataW.trod_int Tryd.underlying45 g1
    obtain ⟨c, e2, _, _⟩ := DataW.trod_string Tryd.underlying9 g2
    obtain ⟨m, e3, _, _⟩ := DataW.trod_string Tryd.underlying9 g3
    obtain ⟨p, e4, _, w4⟩ := DataW.trod_int Tryd.underlying27 g4
    simp only [List.cons.injEq, and_true] at e0 e1 e2 e3 e4
    subst e0 e1 e2 e3 e4
    have b0 := bounds_i64 w0
    have b1 := bounds_u32 w1
    have b4 := bounds_u16 w4
    exact ⟨⟨k, o, c, m, p⟩, rfl, ⟨by simp only; omega, by simp only; omega⟩, by simp only; omega, by simp only; omega, by simp only; omega, by simp only; omega⟩
set_option maxRecDepth 100000 in
theorem bytes_cells {fuel : Nat} {cs : List Value} {x : DataW H × List MemPlace} (hf : DataW.trod enc Tryd.prog W base (fun _ => true) true fuel 22 cs = some x) :
    ∃ (v : Value) (xs : List Nat), cs = [v] ∧ SlAt W v xs.length (xs.map byteV) ∧ (∀ x ∈ xs, x < 256) ∧ xs.length ≤ maxLen := by
  rcases open_ints Tryd.underlying22 Tryd.underlying5 ocU8 hf with ⟨hcs, _⟩ | ⟨a, len, cap, zs, hcs, _, hl, hm, hz, _, hcell, hwz⟩
  · exact ⟨_, [], hcs, ⟨none, 0, rfl, Nat.le_refl _, Nat.zero_le _, .inl rfl⟩, by simp, by simp⟩
  · simp only [if_true] at hz
    have hlt : ((zs.take len).map Int.toNat).length = len := by simp; omega
    refine ⟨_, (zs.take len).map Int.toNat, hcs, ⟨some a, cap, by rw [hlt], by rw [hlt]; omega, hm, ?_⟩, fun x hx => ?_, by rw [hlt]; omega⟩
    · by_cases h0 : len = 0
      · left; subst h0; simp
      · obtain ⟨b, off, spot⟩ := a
        have hc0 := hcell 0 (by omega)
        have hspot : spot = none := by simpa [Addr.add] using World.cell?_spot hc0
        subst hspot
        refine .inr ⟨b, off, rfl, World.block_lt_of_cell? _ _ hc0, fun i x hx => ?_⟩
        have hi : i < len := by have := (List.getElem?_eq_some_iff.1 hx).1; simp at this; omega
        have hc := hcell i (by omega)
        rw [Addr.add_lit] at hc
        rw [hc]
        have hzi : zs[i]? = some (zs.getD i 0) := by
          rw [List.getD_eq_getElem?_getD, List.getElem?_eq_getElem (by omega : i < zs.length)]; rfl
        have hxe : x = byteV (zs.getD i 0).toNat := by
          rw [List.getElem?_map, List.getElem?_map, List.getElem?_take, if_pos hi, hzi] at hx
          simpa using hx.symm
        have hbd := bounds_u8 (hwz _ (List.mem_of_getElem? hzi))
        rw [hxe]
        unfold byteV
        rw [Int.toNat_of_nonneg hbd.1]
    · simp only [List.mem_map] at hx
      obtain ⟨z, hz', rfl⟩ := hx
      have hbd := bounds_u8 (hwz z (List.mem_of_mem_take hz'))
      omega
set_option maxRecDepth 100000 in
theorem sym_rows {fuel : Nat} {cs : List Value} {x : DataW H × List MemPlace} (hf : DataW.trod enc Tryd.prog W base (fun _ => true) true fuel 23 cs = some x) :
    ∃ (v : Value) (l : List SymV), cs = [v] ∧ SlAt W v l.length (l.flatMap symRow) ∧ (∀ s ∈ l, SymOk s) ∧ l.length ≤ maxLen := by
  rcases open_slice Tryd.underlying23 hf with ⟨hcs, hx⟩ | ⟨a, len, cap, m, n, D, Pl, hcs, _, hl, hm, hmm, hx, hE⟩
  · exact ⟨_, [], hcs, ⟨none, 0, rfl, Nat.le_refl _, Nat.zero_le _, .inl rfl⟩, fun s hs => by simp at hs, Nat.zero_le _⟩
  · simp only [if_true] at hmm
    obtain ⟨ab, off, spot⟩ := a
    have hR : ∀ k, k < len → ∃ s : SymV, (SymOk s) ∧ spot = none ∧ ∀ j, j < 4 → W.cell? ⟨ab, off + k * 4 + j, none⟩ = (symRow s)[j]? := by
      intro k hk
      obtain ⟨cs', h1, h2⟩ := hE k (by omega)
      obtain ⟨s, rfl, hok⟩ := sym_cells h2
      obtain ⟨_, _, h3⟩ := World.cells?_some h1
      rw [ocSym] at h3
      obtain ⟨cs0, h10, h20⟩ := hE 0 (by omega)
      obtain ⟨s0, rfl, _⟩ := sym_cells h20
      obtain ⟨_, _, h30⟩ := World.cells?_some h10
      rw [ocSym] at h30
      have hc0 := h30 0 (by decide)
      have hspot : spot = none := by
        simp only [Nat.zero_mul, Addr.add_zero'] at hc0
        exact World.cell?_spot hc0
      subst hspot
      refine ⟨s, hok, rfl, fun j hj => ?_⟩
      have h4 := h3 j (by omega)
      rw [Addr.add_lit, Addr.add_lit] at h4
      exact h4
    haveI : Inhabited SymV := ⟨⟨⟨#[]⟩, false, 0, false⟩⟩
    obtain ⟨R, hR⟩ := choose_lt hR
    refine ⟨_, (List.range len).map R, hcs, ⟨some ⟨ab, off, spot⟩, cap, by simp, by simpa using hl, hm, ?_⟩, ?_, by simp; omega⟩
    · by_cases h0 : len = 0
      · left; subst h0; rfl
      · obtain ⟨_, hsp, hc0⟩ := hR 0 (by omega)
        subst hsp
        refine .inr ⟨ab, off, rfl, ?_, fun i x hx => ?_⟩
        · have h := hc0 0 (by decide)
          exact World.block_lt_of_cell? _ _ h
        · have hi := (List.getElem?_eq_some_iff.1 hx).1
          rw [rows_length (k := 4) (fun _ => rfl)] at hi
          simp only [List.length_map, List.length_range] at hi
          have hk : i / 4 < len := Nat.div_lt_of_lt_mul (by omega)
          have hj : i % 4 < 4 := Nat.mod_lt _ (by decide)
          have e : i = i / 4 * 4 + i % 4 := by omega
          have h1 := rows_row (f := symRow) (k := 4) (fun _ => rfl) ((List.range len).map R) (i / 4) (i % 4) hj (R (i / 4)) (by simp [hk])
          rw [← e, hx] at h1
          have h2 := (hR (i / 4) hk).2.2 (i % 4) hj
          rw [← h1, Nat.add_assoc, ← e] at h2
          exact h2
    · intro s hs
      simp only [List.mem_map, List.mem_range] at hs
      obtain ⟨i, hi, rfl⟩ := hs
      exact (hR i hi).1
set_option maxRecDepth 100000 in
theorem rel_rows {fuel : Nat} {cs : List Value} {x : DataW H × List MemPlace} (hf : DataW.trod enc Tryd.prog W base (fun _ => true) true fuel 24 cs = some x) :
    ∃ (v : Value) (l : List RelV), cs = [v] ∧ SlAt W v l.length (l.flatMap relRow) ∧ (∀ s ∈ l, (-9223372036854775808 ≤ s.kind ∧ s.kind ≤ 9223372036854775807) ∧ 0 ≤ s.off ∧ s.off < 4294967296 ∧ 0 ≤ s.perm ∧ s.perm < 65536) ∧ l.length ≤ maxLen := by
  rcases open_slice Tryd.underlying24 hf with ⟨hcs, hx⟩ | ⟨a, len, cap, m, n, D, Pl, hcs, _, hl, hm, hmm, hx, hE⟩
  · exact ⟨_, [], hcs, ⟨none, 0, rfl, Nat.le_refl _, Nat.zero_le _, .inl rfl⟩, fun s hs => by simp at hs, Nat.zero_le _⟩
  · simp only [if_true] at hmm
    obtain ⟨ab, off, spot⟩ := a
    have hR : ∀ k, k < len → ∃ s : RelV, ((-9223372036854775808 ≤ s.kind ∧ s.kind ≤ 9223372036854775807) ∧ 0 ≤ s.off ∧ s.off < 4294967296 ∧ 0 ≤ s.perm ∧ s.perm < 65536) ∧ spot = none ∧ ∀ j, j < 5 → W.cell? ⟨ab, off + k * 5 + j, none⟩ = (relRow s)[j]? := by
      intro k hk
      obtain ⟨cs', h1, h2⟩ := hE k (by omega)
      obtain ⟨s, rfl, hok⟩ := rel_cells h2
      obtain ⟨_, _, h3⟩ := World.cells?_some h1
      rw [ocRel] at h3
      obtain ⟨cs0, h10, h20⟩ := hE 0 (by omega)
      obtain ⟨s0, rfl, _⟩ := rel_cells h20
      obtain ⟨_, _, h30⟩ := World.cells?_some h10
      rw [ocRel] at h30
      have hc0 := h30 0 (by decide)
      have hspot : spot = none := by
        simp only [Nat.zero_mul, Addr.add_zero'] at hc0
        exact World.cell?_spot hc0
      subst hspot
      refine ⟨s, hok, rfl, fun j hj => ?_⟩
      have h4 := h3 j (by omega)
      rw [Addr.add_lit, Addr.add_lit] at h4
      exact h4
    haveI : Inhabited RelV := ⟨⟨0, 0, ⟨#[]⟩, ⟨#[]⟩, 0⟩⟩
    obtain ⟨R, hR⟩ := choose_lt hR
    refine ⟨_, (List.range len).map R, hcs, ⟨some ⟨ab, off, spot⟩, cap, by simp, by simpa using hl, hm, ?_⟩, ?_, by simp; omega⟩
    · by_cases h0 : len = 0
      · left; subst h0; rfl
      · obtain ⟨_, hsp, hc0⟩ := hR 0 (by omega)
        subst hsp
        refine .inr ⟨ab, off, rfl, ?_, fun i x hx => ?_⟩
        · have h := hc0 0 (by decide)
          exact World.block_lt_of_cell? _ _ h
        · have hi := (List.getElem?_eq_some_iff.1 hx).1
          rw [rows_length (k := 5) (fun _ => rfl)] at hi
          simp only [List.length_map, List.length_range] at hi
          have hk : i / 5 < len := Nat.div_lt_of_lt_mul (by omega)
          have hj : i % 5 < 5 := Nat.mod_lt _ (by decide)
          have e : i = i / 5 * 5 + i % 5 := by omega
          have h1 := rows_row (f := relRow) (k := 5) (fun _ => rfl) ((List.range len).map R) (i / 5) (i % 5) hj (R (i / 5)) (by simp [hk])
          rw [← e, hx] at h1
          have h2 := (hR (i / 5) hk).2.2 (i % 5) hj
          rw [← h1, Nat.add_assoc, ← e] at h2
          exact h2
    · intro s hs
      simp only [List.mem_map, List.mem_range] at hs
      obtain ⟨i, hi, rfl⟩ := hs
      exact (hR i hi).1
set_option maxRecDepth 100000 in
theorem obj_cells {fuel : Nat} {cs : List Value} {x : DataW H × List MemPlace} (hf : DataW.trod enc Tryd.prog W base (fun _ => true) true fuel 26 cs = some x) :
    ∃ (o : ObjV) (vc vd vs vr : Value), cs = [.string o.name, vc, vd, vs, vr] ∧ ObjAt W o vc vd vs vr ∧ ObjNum o ∧ (o.code.length ≤ maxLen ∧ o.data.length ≤ maxLen) ∧ o.syms.length ≤ maxLen ∧ o.rels.length ≤ maxLen := by
  obtain ⟨xs, n, _, hx, hsz, hlen, hg⟩ := DataW.trod_struct Tryd.underlying26 hf
  rw [ocObj] at hsz
  match cs, hsz, xs, hlen with
  | [c0, c1, c2, c3, c4], _, [y0, y1, y2, y3, y4], _ =>
    have g0 : DataW.trod enc Tryd.prog W base (fun _ => true) true n 9 [c0] = some y0 := by
      have h : DataW.trod enc Tryd.prog W base (fun _ => true) true n 9 ((List.drop 0 [c0, c1, c2, c3, c4]).take (Tryd.prog.cellsOf 9)) = some y0 := hg 0 _ rfl
      rw [ocStr] at h
      exact h
    have g1 : DataW.trod enc Tryd.prog W base (fun _ => true) true n 22 [c1] = some y1 := by
      have h : DataW.trod enc Tryd.prog W base (fun _ => true) true n 22 ((List.drop 1 [c0, c1, c2, c3, c4]).take (Tryd.prog.cellsOf 22)) = some y1 := hg 1 _ rfl
      rw [ocBytes] at h
      exact h
    have g2 : DataW.trod enc Tryd.prog W base (fun _ => true) true n 22 [c2] = some y2 := by
      have h : DataW.trod enc Tryd.prog W base (fun _ => true) true n 22 ((List.drop 2 [c0, c1, c2, c3, c4]).take (Tryd.prog.cellsOf 22)) = some y2 := hg 2 _ rfl
      rw [ocBytes] at h
      exact h
    have g3 : DataW.trod enc Tryd.prog W base (fun _ => true) true n 23 [c3] = some y3 := by
      have h : DataW.trod enc Tryd.prog W base (fun _ => true) true n 23 ((List.drop 3 [c0, c1, c2, c3, c4]).take (Tryd.prog.cellsOf 23)) = some y3 := hg 3 _ rfl
      rw [ocSyms] at h
      exact h
    have g4 : DataW.trod enc Tryd.prog W base (fun _ => true) true n 24 [c4] = some y4 := by
      have h : DataW.trod enc Tryd.prog W base (fun _ => true) true n 24 ((List.drop 4 [c0, c1, c2, c3, c4]).take (Tryd.prog.cellsOf 24)) = some y4 := hg 4 _ rfl
      rw [ocRels] at h
      exact h
    obtain ⟨s, e0, _, _⟩ := DataW.trod_string Tryd.underlying9 g0
    obtain ⟨vc, xc, e1, a1, b1, m1⟩ := bytes_cells g1
    obtain ⟨vd, xd, e2, a2, b2, m2⟩ := bytes_cells g2
    obtain ⟨vs, ls, e3, a3, b3, m3⟩ := sym_rows g3
    obtain ⟨vr, lr, e4, a4, b4, m4⟩ := rel_rows g4
    simp only [List.cons.injEq, and_true] at e0 e1 e2 e3 e4
    subst e0 e1 e2 e3 e4
    exact ⟨⟨s, xc, xd, ls, lr⟩, _, _, _, _, rfl, ⟨a1, a2, a3, a4⟩, ⟨b1, b2, b3, fun r hr => (b4 r hr).1, fun r hr => (b4 r hr).2⟩, ⟨m1, m2⟩, m3, m4⟩
set_option maxRecDepth 100000 in
/-- An object. -/
theorem open_obj {r : Reach} {b0 : Nat} {v : Value} {d : DataW H} {pl : List MemPlace} (hv : Value.okWide Tryd.prog W r b0 26 v) (h : DataW.Trod enc Tryd.prog W base (fun _ => true) true 26 v d pl) :
    ∃ (o : ObjV) (vc vd vs vr : Value), v = objVal o vc vd vs vr ∧ ObjAt W o vc vd vs vr ∧ ObjNum o ∧ (o.code.length ≤ maxLen ∧ o.data.length ≤ maxLen) ∧ o.syms.length ≤ maxLen ∧ o.rels.length ≤ maxLen := by
  obtain ⟨cs, rfl, hsz⟩ := okWide_struct Tryd.underlying26 hv
  obtain ⟨fuel, hf⟩ := h
  obtain ⟨o, vc, vd, vs, vr, hcs, rest⟩ := obj_cells hf
  obtain ⟨l⟩ := cs
  have hl : l = [.string o.name, vc, vd, vs, vr] := hcs
  subst hl
  exact ⟨o, vc, vd, vs, vr, rfl, rest⟩
end
end Go.Proofs.YtahnbeoacdnhjaaDoor
