/- LaidMem, PreOf, NamesData: What the listed variables give: one by its name, a handle by its name; errors.errorType. -/
import Derived.Test.YtockkidbncpdlaaDoorRows
import Derived.Test.YtockkidbncpdlaaDoorChecked
import Derived.Test.YtockkidbncpdlaaDoorGTell
import Derived.ProofKit
import Derived.OpenShut
import Derived.LaidLaws
import Derived.LaidHandle
import Derived.Stop.LaidErr
import Derived.ChangeVars
import Derived.Test.YtockkidbncpdlaaDoorPre
import Derived.Stop.Joined
import Derived.ChangeMaps5
import Derived.Deep.Slices
import Derived.Deep.Fields
import Derived.Test.YtockkidbncpdlaaDoorExprC
/- What the listed variables give: one by its name, a handle by its name; errors.errorType. -/
namespace Go.Proofs.YtockkidbncpdlaaDoor
set_option linter.unusedVariables false
set_option linter.unusedSimpArgs false
open Go.ChangeShapes Go.WideShapes Go.ChangeAt Go.RowKit
theorem laid_mem {P : Program} {W : World} {x : String × DataW Unit} : ∀ {l : List (String × DataW Unit)}, laidMet P l W → x ∈ l → ∃ r, laidMet P (x :: r) W
  | [], _, h => by simp at h
  | y :: l, hl, h => by
    rcases List.mem_cons.1 h with rfl | h
    · exact ⟨l, hl⟩
    · exact laid_mem (laidMet.tail hl) h
theorem laidH_data {P : Program} {W : World} {l : List (String × DataW Unit)} {x : String × DataW Unit} (h : laidMetH P l W) (hx : x ∈ l) (hn : x.2.handleName?.isNone = true) : ∃ r, laidMet P (x :: r) W := by
  unfold laidMetH at h
  split at h
  · exact laid_mem h hx
  · exact laid_mem h.1 (List.mem_filter.2 ⟨hx, hn⟩)
theorem laidH_handle {P : Program} {W : World} {l : List (String × DataW Unit)} {x : String × DataW Unit} (h : laidMetH P l W) (hx : x ∈ l) (hn : x.2.handleName?.isSome = true) : handlesMet P [x] W := by
  have hm : x ∈ l.filter fun x => x.2.handleName?.isSome := List.mem_filter.2 ⟨hx, hn⟩
  unfold laidMetH at h
  split at h
  · rename_i e; rw [e] at hm; simp at hm
  · rename_i a1 a2 e
    rw [e] at hm
    intro y hy
    obtain rfl := List.mem_singleton.1 hy
    exact h.2 _ hm
theorem laidOut : laidOutB Tryd.prog = true := by kernel_rfl
theorem etNamed : Tryd.prog.globalNamed "errors.errorType" = some 0 := by kernel_rfl
theorem rtType : (Tryd.prog.cutTypes.find? (·.1 == "internal/reflectlite.rtype")).map (·.2) = some 96 := by kernel_rfl
theorem oneRow : ((List.range Tryd.prog.types.size).filter fun t => Tryd.prog.rowNamed t [101, 114, 114, 111, 114]) = [32] := by kernel_rfl
theorem errT_mem {W : World} (h : handlesMet Tryd.prog [("errors.errorType", Rows.laid_errors_errorType)] W) : ErrT W := by
  obtain ⟨name, u, ty, e1, e2, e3, e4, e5⟩ := h _ (List.mem_singleton.2 rfl)
  have en : name = [101, 114, 114, 111, 114] := (Option.some.inj e1).symm
  subst en
  obtain rfl := Option.some.inj (rtType.symm.trans e2)
  have hm : ty ∈ (List.range Tryd.prog.types.size).filter fun t => Tryd.prog.rowNamed t [101, 114, 114, 111, 114] := List.mem_filter.2 ⟨List.mem_range.2 e3, e4⟩
  rw [oneRow] at hm
  obtain rfl := List.mem_singleton.1 hm
  have hh : typeHandle Tryd.prog 32 = .pointer (some ⟨6, 32, none⟩) := by kernel_rfl
  rw [hh] at e5
  unfold ErrT
  simpa using World.var?_cell etNamed e5 0
end Go.Proofs.YtockkidbncpdlaaDoor

/- The listed variables as what the walks ask. -/
namespace Go.Proofs.YtockkidbncpdlaaDoor
set_option linter.unusedVariables false
set_option linter.unusedSimpArgs false
open Go.ChangeShapes Go.WideShapes Go.ChangeAt Go.RowKit Go.Deep
theorem cellsStr : Tryd.prog.cellsOf 9 = 1 := by kernel_rfl
theorem erNamed : Tryd.prog.globalNamed "strconv.ErrRange" = some 1 := by kernel_rfl
theorem erType : (Tryd.prog.globals[1]?).map (·.type) = some 32 := by kernel_rfl
theorem esStar : "*" ++ "errors.errorString" = "*errors.errorString" := by decide
theorem esOne (u : TypeId) (h : Tryd.prog.typeName? 3 u = some "*errors.errorString") : u = 123 :=
  typeName_ptr_named (nm := "errors.errorString") (by rw [esStar]; kernel_rfl) (by kernel_rfl) (by decide) u (by rw [esStar]; exact h)
theorem errG_mem {W : World} {r : List (String × DataW Unit)} (h : laidMet Tryd.prog (("strconv.ErrRange", Rows.laid_strconv_ErrRange) :: r) W) : ∃ b, ErrG W b := by
  obtain ⟨a, s, h1, _⟩ := laid_sentinel h erNamed erType Tryd.underlying32 esOne Tryd.underlying123 Tryd.underlying125 rfl rfl Tryd.underlying9 (by kernel_rfl) cellsStr
  exact ⟨a, by unfold ErrG esV; simpa using World.var?_cell erNamed h1 0⟩
theorem pre_of {l : List (String × DataW Unit)} {W : World} (h : laidMetH Tryd.prog l W) (h1 : ("errors.errorType", Rows.laid_errors_errorType) ∈ l) (h2 : ("strconv.ErrRange", Rows.laid_strconv_ErrRange) ∈ l) : Pre W := by
  refine ⟨errT_mem (laidH_handle h h1 rfl), ?_⟩
  obtain ⟨r, hr⟩ := laidH_data h h2 rfl
  exact errG_mem hr
end Go.Proofs.YtockkidbncpdlaaDoor

/- A row of names as an argument: what lies there. -/
namespace Go.Proofs.YtockkidbncpdlaaDoor
set_option linter.unusedVariables false
set_option linter.unusedSimpArgs false
open Go.ChangeShapes Go.WideShapes Go.ChangeAt Go.RowKit Go.Deep
section
variable {H : Type} {enc : TypeId × Value → H} {W W' : World} {base : Nat}
theorem cellsVal : Tryd.prog.cellsOf 36 = 2 := by kernel_rfl
theorem cellsI64 : Tryd.prog.cellsOf 2 = 1 := by kernel_rfl
def in64 (x : Int) : Prop := -9223372036854775808 ≤ x ∧ x ≤ 9223372036854775807
theorem in64_wf {x : Int} (h : (Lit.int .i64 x).wf = true) : in64 x := bounds_i64 h
set_option maxRecDepth 100000 in
theorem name_cells {fuel : Nat} {cs : List Value} {x : DataW H × List MemPlace} (hf : DataW.trod enc Tryd.prog W base (fun _ => true) true fuel 36 cs = some x) :
    ∃ (s : ByteArray) (n : Int), cs = [.string s, .int .i64 n] ∧ in64 n := by
  obtain ⟨xs, n, _, hx, hsz, hlen, hg⟩ := DataW.trod_struct Tryd.underlying36 hf
  rw [cellsVal] at hsz
  match cs, hsz, xs, hlen with
  | [c0, c1], _, [y0, y1], _ =>
    have g0 : DataW.trod enc Tryd.prog W base (fun _ => true) true n 9 [c0] = some y0 := by
      have h : DataW.trod enc Tryd.prog W base (fun _ => true) true n 9 ((List.drop 0 [c0, c1]).take (Tryd.prog.cellsOf 9)) = some y0 := hg 0 _ rfl
      rw [cellsStr] at h
      exact h
    have g1 : DataW.trod enc Tryd.prog W base (fun _ => true) true n 2 [c1] = some y1 := by
      have h : DataW.trod enc Tryd.prog W base (fun _ => true) true n 2 ((List.drop 1 [c0, c1]).take (Tryd.prog.cellsOf 2)) = some y1 := hg 1 _ rfl
      rw [cellsI64] at h
      exact h
    obtain ⟨s, e0, _, w0⟩ := DataW.trod_string Tryd.underlying9 g0
    obtain ⟨m, e1, _, w1⟩ := DataW.trod_int Tryd.underlying2 g1
    simp only [List.cons.injEq, and_true] at e0 e1
    subst e0 e1
    exact ⟨s, m, rfl, in64_wf w1⟩
set_option maxRecDepth 100000 in
/-- A row of names. -/
theorem open_names {r : Reach} {b0 : Nat} {v : Value} {d : DataW H} {pl : List MemPlace} (hv : Value.okWide Tryd.prog W r b0 37 v) (h : DataW.Trod enc Tryd.prog W base (fun _ => true) true 37 v d pl) :
    ∃ (q : Option Addr) (cap : Nat) (l : List (ByteArray × Int)), v = .slice q l.length cap ∧ l.length ≤ cap ∧ cap ≤ maxLen ∧ NamesAt W q l ∧ ∀ x ∈ l, in64 x.2 := by
  obtain ⟨a0, len, cap, rfl⟩ := Go.WideShapes.okWide_slice Tryd.underlying37 hv
  obtain ⟨fuel, hf⟩ := h
  rcases open_slice Tryd.underlying37 hf with ⟨hcs, hx⟩ | ⟨a, len', cap', m, n, D, Pl, hcs, _, hl, hm, hmm, hx, hE⟩
  · simp only [Value.cells, List.cons.injEq, and_true, Value.slice.injEq] at hcs
    obtain ⟨rfl, rfl, rfl⟩ := hcs
    exact ⟨none, 0, [], rfl, Nat.le_refl _, by decide, .inl rfl, fun x hx => by simp at hx⟩
  · simp only [Value.cells, List.cons.injEq, and_true, Value.slice.injEq] at hcs
    obtain ⟨rfl, rfl, rfl⟩ := hcs
    simp only [if_true] at hmm
    obtain ⟨ab, off, spot⟩ := a
    have hR : ∀ k, k < len → ∃ x : ByteArray × Int, in64 x.2 ∧ spot = none ∧ W.cell? ⟨ab, off + k * 2, none⟩ = some (.string x.1) ∧ W.cell? ⟨ab, off + k * 2 + 1, none⟩ = some (.int .i64 x.2) := by
      intro k hk
      obtain ⟨cs', h1, h2⟩ := hE k (by omega)
      obtain ⟨s, z, rfl, hok⟩ := name_cells h2
      obtain ⟨_, _, h3⟩ := World.cells?_some h1
      rw [cellsVal] at h3
      obtain ⟨cs0, h10, h20⟩ := hE 0 (by omega)
      obtain ⟨s0, z0, rfl, _⟩ := name_cells h20
      obtain ⟨_, _, h30⟩ := World.cells?_some h10
      rw [cellsVal] at h30
      have hc0 := h30 0 (by decide)
      have hc1 : W.cell? ⟨ab, off, spot⟩ = some (.string s0) := by
        simp only [Nat.zero_mul, Addr.add_zero'] at hc0
        exact hc0
      have hspot : spot = none := World.cell?_spot hc1
      subst hspot
      have h40 := h3 0 (by decide)
      have h41 := h3 1 (by decide)
      rw [Addr.add_lit, Addr.add_lit] at h40 h41
      exact ⟨(s, z), hok, rfl, h40, h41⟩
    obtain ⟨R, hR⟩ := choose_lt hR
    refine ⟨some ⟨ab, off, spot⟩, cap, (List.range len).map R, by simp, by simpa using hl, hm, ?_, ?_⟩
    · by_cases h0 : len = 0
      · left; subst h0; rfl
      · obtain ⟨_, hsp, hc0, _⟩ := hR 0 (by omega)
        subst hsp
        refine .inr ⟨ab, off, rfl, World.block_lt_of_cell? _ _ hc0, fun i x hx => ?_⟩
        have hi : i < len := by have := (List.getElem?_eq_some_iff.1 hx).1; simpa using this
        have e : x = R i := by simp [hi] at hx; exact hx.symm
        subst e
        exact ⟨(hR i hi).2.2.1, (hR i hi).2.2.2⟩
    · intro x hx
      simp only [List.mem_map, List.mem_range] at hx
      obtain ⟨i, hi, rfl⟩ := hx
      exact (hR i hi).1
end
end Go.Proofs.YtockkidbncpdlaaDoor
