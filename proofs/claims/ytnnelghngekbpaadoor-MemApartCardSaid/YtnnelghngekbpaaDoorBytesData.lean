/- Rows of bytes as arguments: what lies there. And: arguments read again where nothing of theirs has changed. -/
import Derived.Test.YtnnelghngekbpaaDoorMemStore
import Derived.ProofKit
import Derived.OpenShut
import Derived.WideKeyArgs
import Derived.ChangeSlices
import Derived.SizedLaws
namespace Go.Proofs.YtnnelghngekbpaaDoor
set_option linter.unusedVariables false
set_option linter.unusedSimpArgs false
open Go.ChangeShapes Go.WideShapes Go.ChangeAt Go.RowKit
open Go.WideElems (Trod_stays)

section
variable {H : Type} {enc : TypeId × Value → H} {W W' : World} {base : Nat}
/-- Arguments that may be read at all are read again in any world that keeps what was there. -/
theorem trodAll_keep {sp' : Nat → Bool} (hl : laidOutB Tryd.prog = true) (hk : Keep W W') : ∀ {ts : List TypeId} {vs : List Value} {ds : List (DataW H)} {ps : List MemPlace},
    (∀ t ∈ ts, Tryd.prog.readableRec t = true ∧ t < Tryd.prog.types.size) → DataW.TrodAll enc Tryd.prog W base (fun _ => true) true ts vs ds ps → (∀ p ∈ ps, p.block < W.heap.size) → (∀ p ∈ ps, sp' p.block = true) →
    DataW.TrodAll enc Tryd.prog W' base sp' true ts vs ds ps
  | [], _, _, _, _, h, _, _ => by
    obtain ⟨rfl, rfl, rfl⟩ := trodAll_nil h
    exact trodAll_mk0
  | t :: ts, _, _, _, hr, h, hlt, hs => by
    obtain ⟨v, vs1, d, ds1, a, b, rfl, rfl, rfl, h1, h2⟩ := trodAll_cons h
    refine ⟨a, b, Trod_stays hl (hr t (by simp)).1 (hr t (by simp)).2 h1 (fun p hp => ?_) (fun p hp => hs p (by simp [hp])), trodAll_keep hl hk (fun t' ht' => hr t' (by simp [ht'])) h2 (fun p hp => hlt p (by simp [hp])) (fun p hp => hs p (by simp [hp])), rfl⟩
    have hb := hlt p (by simp [hp])
    cases p with
    | cell b off => exact Below.cell hk hb
    | map b => exact Below.block hk b hb
theorem cellsU8' : Tryd.prog.cellsOf 5 = 1 := by kernel_rfl
/-- The datum is as long at least. -/
def OfData (d : DataW H) (xs : List Int) : Prop := (d = .nil ∧ xs = []) ∨ ∃ e s, d = .slice e s ∧ xs.length ≤ e.length + s.length
theorem bytesU8 : Tryd.prog.bytesOf 5 = 1 := by kernel_rfl
theorem bytes_sized {ts : List TypeId} {ds : List (DataW H)} (h : (DataW.weightsEach Tryd.prog ts ds).all (· ≤ reachBytes) = true) {j : Nat} {d : DataW H} {xs : List Int} (ht : ts[j]? = some 35) (hd : ds[j]? = some d) (ho : OfData d xs) : xs.length ≤ 140737488351232 := by
  rcases ho with ⟨_, rfl⟩ | ⟨e, s, rfl, hl⟩
  · simp
  · have := sized_slice h ht hd Tryd.underlying35
    rw [bytesU8, Nat.mul_one] at this
    unfold reachBytes at this
    omega
set_option maxRecDepth 100000 in
theorem bytes_cells {fuel : Nat} {cs : List Value} {x : DataW H × List MemPlace} (hf : DataW.trod enc Tryd.prog W base (fun _ => true) true fuel 35 cs = some x) :
    ∃ (v : Value) (xs : List Int), cs = [v] ∧ Lies W v xs (fun _ => False) ∧ (∀ z ∈ xs, IsByte z) ∧ xs.length ≤ maxLen ∧ OfData x.1 xs := by
  rcases open_ints Tryd.underlying35 Tryd.underlying5 cellsU8' hf with ⟨rfl, hx⟩ | ⟨a, len, cap, zs, rfl, _, hl, hm, hz, hx, hcell, hwz⟩
  · exact ⟨_, [], rfl, ⟨none, 0, rfl, by simp, by decide, fun k hk => by simp at hk⟩, by simp, by simp, .inl ⟨by rw [hx], rfl⟩⟩
  · simp only [if_true] at hz
    have hlt : (zs.take len).length = len := by simp; omega
    refine ⟨_, zs.take len, rfl, ⟨some a, cap, by rw [hlt], by omega, by unfold maxLen at hm; omega, fun k hk => ?_⟩, fun z hz' => ?_, by omega, .inr ⟨_, _, by rw [hx], by simp [lits]⟩⟩
    · have hk' : k < zs.length := by rw [hlt] at hk; omega
      have hc := hcell k hk'
      have hc0 := hcell 0 (by omega)
      obtain ⟨b, off, spot⟩ := a
      have hspot : spot = none := by simpa [Addr.add] using World.cell?_spot hc0
      subst hspot
      refine ⟨b, off, rfl, fun h => h, ?_, ?_⟩
      · exact World.block_lt_of_cell? _ _ hc0
      · rw [Addr.add_lit] at hc
        rw [hc]
        congr 2
        rw [hlt] at hk
        simp [List.getD_eq_getElem?_getD, List.getElem?_take, hk]
    · exact bounds_u8 (hwz z (List.mem_of_mem_take hz'))
set_option maxRecDepth 100000 in
/-- A row of bytes. -/
theorem open_bytes {r : Reach} {b0 : Nat} {v : Value} {d : DataW H} {pl : List MemPlace} (hv : Value.okWide Tryd.prog W r b0 35 v) (h : DataW.Trod enc Tryd.prog W base (fun _ => true) true 35 v d pl) :
    ∃ xs : List Int, Lies W v xs (fun _ => False) ∧ (∀ z ∈ xs, IsByte z) ∧ xs.length ≤ maxLen ∧ OfData d xs := by
  obtain ⟨a0, len, cap, rfl⟩ := Go.WideShapes.okWide_slice Tryd.underlying35 hv
  obtain ⟨fuel, hf⟩ := h
  obtain ⟨v, xs, hcs, h⟩ := bytes_cells hf
  simp only [Value.cells, List.cons.injEq, and_true] at hcs
  subst hcs
  exact ⟨xs, h⟩
end
end Go.Proofs.YtnnelghngekbpaaDoor
