/- The reference's NewMem, Tags. -/
import Derived.Test.YtnnelghngekbpaaDoorMemStoreCap
import Derived.Deep.OwnRows
import Derived.RegionTactic
namespace Go.Proofs.YtnnelghngekbpaaDoor
set_option linter.unusedVariables false
set_option linter.unusedSimpArgs false
open Go.RowKit Go.Deep
def sizeV (size err : Int) : Value := .agg #[.string ⟨#[115, 105, 122, 101]⟩, .int .i64 size, .int .i64 err]
theorem rnew_bad (size : Int) (hs : -9223372036854775808 ≤ size ∧ size ≤ 9223372036854775807) (n : Int) (hn : (size < 16 ∨ 65536 < size) ∧ n = 6 ∨ (16 ≤ size ∧ size ≤ 65536) ∧ ¬ size % 16 = 0 ∧ n = 5) (w : World) :
    Calls Tryd.prog 9 #[.int .i64 size] w fun e w' => e = .returned (.tuple #[.pointer none, sizeV size n]) ∧ Keep w w' := by
  unfold sizeV
  go_enter Tryd.func9, Tryd.ntmps9
  go_wp2_with fail
  all_goals (
    first
      | (have e : n = 6 := (by omega)
         subst e
         refine bodyPost_ret (v := .tuple #[.pointer none, .agg #[.string ⟨#[115, 105, 122, 101]⟩, .int .i64 size, .int .i64 6]]) (by simp [results, Tryd.results9, go_sem]; done) rfl ⟨rfl, (Keep.refl _).alloc _⟩)
      | (have e : n = 5 := (by omega)
         subst e
         refine bodyPost_ret (v := .tuple #[.pointer none, .agg #[.string ⟨#[115, 105, 122, 101]⟩, .int .i64 size, .int .i64 5]]) (by simp [results, Tryd.results9, go_sem]; done) rfl ⟨rfl, (Keep.refl _).alloc _⟩))
theorem infoBool : (Tryd.prog.info? 4).map (fun i => (i.zero, i.size, i.bytes)) = some (some (.bool false), 1, 1) := by kernel_rfl
theorem made_u8 (n : Nat) : madeCells #[.int .u8 0] n = u8s (List.replicate n 0) := by
  apply Array.ext'
  rw [toList_madeCells_one]
  simp [u8s]
theorem made_bl (n : Nat) : madeCells #[.bool false] n = bls (List.replicate n false) := by
  apply Array.ext'
  rw [toList_madeCells_one]
  simp [bls]
/-- A memory that has just been made. -/
theorem RMem.fresh {w : World} {p gb gt N M : Nat} (hp : Box w p #[.slice (some ⟨gb, 0, none⟩) N N, .slice (some ⟨gt, 0, none⟩) M M]) (hb : Box w gb (madeCells #[.int .u8 0] N)) (ht : Box w gt (madeCells #[.bool false] M)) (h1 : p ≠ gb) (h2 : p ≠ gt) (h3 : gb ≠ gt) (h4 : N = 16 * M) (h5 : N ≤ 65536) :
    RMem w p gb gt N M (List.replicate N 0) (List.replicate M false) :=
  { box := by simpa using hp
    bytes := by rw [← made_u8]; exact hb
    tags := by rw [← made_bl]; exact ht
    pb := h1, pt := h2, bt := h3
    isB := fun z hz => by rw [(List.mem_replicate.1 hz).2]; unfold IsByte; decide
    len := by simpa using h4
    most := by simpa using h5
    capb := by simp; omega
    capt := by simp; omega }
set_option maxRecDepth 100000 in
theorem rnew_good (N M : Nat) (h1 : 16 ≤ N) (h2 : N ≤ 65536) (h3 : N = 16 * M) (w : World) :
    Calls Tryd.prog 9 #[.int .i64 N] w fun e w' => ∃ p gb gt, e = .returned (.tuple #[.pointer (some ⟨p, 0, none⟩), okV]) ∧ RMem w' p gb gt N M (List.replicate N 0) (List.replicate M false) ∧ Keep w w' ∧ w.heap.size ≤ p ∧ w.heap.size ≤ gb ∧ w.heap.size ≤ gt := by
  unfold okV wrongV
  have hmk1 := run_make_row' (P := Tryd.prog) 35 5 (.int .u8 0) 1 Tryd.underlying35 infoU8 rfl .i64 .i64 N (by omega) (by omega)
  have hmk2 := run_make_row' (P := Tryd.prog) 59 4 (.bool false) 1 Tryd.underlying59 infoBool rfl .i64 .i64 M (by omega) (by omega)
  have hw : IntKind.i64.wrap ((N : Int) / 16) = (M : Int) := by rw [IntKind.wrap_i64]; omega
  have hmod : (N : Int) % 16 = 0 := by omega
  have b1 : (16 : Int) ≤ (N : Int) := by omega
  have b2 : (N : Int) ≤ 65536 := by omega
  have hd : (N : Int) / 16 = (M : Int) := by omega
  have H3 := Lib.hid h3
  clear h3
  go_enter Tryd.func9, Tryd.ntmps9
  go_wp2_with fail
  go_region
  all_goals go_wp2_with fail
  · refine bodyPost_ret (v := .tuple #[.pointer (some ⟨w.heap.size + 1 + 1 + 1, 0, none⟩), .agg #[.string ⟨#[]⟩, .int .i64 0, .int .i64 0]]) (by simp [results, Tryd.results9, go_sem]; done) rfl ⟨_, _, _, rfl, RMem.fresh ((Box.newAt _ _ _ _ (by simp)).drew) ((((Box.newAt _ _ _ _ (by simp)).alloc _).alloc _).drew) (((Box.newAt _ _ _ _ (by simp)).alloc _).drew) (by omega) (by omega) (by omega) H3.out h2, (((((Keep.refl _).alloc _).alloc _).alloc _).alloc _).drew, by omega, by omega, by omega⟩
  · refine bodyPost_ret (v := .tuple #[.pointer (some ⟨w.heap.size + 1 + 1 + 1, 0, none⟩), .agg #[.string ⟨#[]⟩, .int .i64 0, .int .i64 0]]) (by simp [results, Tryd.results9, go_sem]; done) rfl ⟨_, _, _, rfl, RMem.fresh ((Box.newAt _ _ _ _ (by simp)).drew) (((Box.newAt _ _ _ _ (by simp)).alloc _).drew) ((((Box.newAt _ _ _ _ (by simp)).alloc _).alloc _).drew) (by omega) (by omega) (by omega) H3.out h2, (((((Keep.refl _).alloc _).alloc _).alloc _).alloc _).drew, by omega, by omega, by omega⟩
end Go.Proofs.YtnnelghngekbpaaDoor
