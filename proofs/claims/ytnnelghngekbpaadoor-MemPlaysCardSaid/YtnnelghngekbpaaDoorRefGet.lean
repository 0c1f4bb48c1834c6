/- The reference's Get: sixteen bytes as a capability. -/
import Derived.Test.YtnnelghngekbpaaDoorRefPut
import Derived.Test.YtnnelghngekbpaaDoorGrow
namespace Go.Proofs.YtnnelghngekbpaaDoor
set_option linter.unusedVariables false
set_option linter.unusedSimpArgs false
open Go.RowKit

/-- Sixteen bytes of a slice. -/
def Cells16 (w : World) (b off : Nat) (zs : List Int) : Prop := zs.length = 16 ∧ (∀ z ∈ zs, IsByte z) ∧ ∀ j, j < 16 → w.cell? ⟨b, off + j, none⟩ = some (.int .u8 (zs.getD j 0))
theorem Cells16.keep {w w' : World} {b off : Nat} {zs : List Int} (h : Cells16 w b off zs) (k : Keep w w') : Cells16 w' b off zs := ⟨h.1, h.2.1, fun j hj => k.cellOf (h.2.2 j hj)⟩
def part (zs : List Int) (i n : Nat) : List Int := (zs.drop i).take n
theorem part_length (zs : List Int) (i n : Nat) (h : i + n ≤ zs.length) : (part zs i n).length = n := by simp [part]; omega
theorem part_byte (zs : List Int) (i n : Nat) (h : ∀ z ∈ zs, IsByte z) : ∀ z ∈ part zs i n, IsByte z := fun z hz => h z (List.mem_of_mem_drop (List.mem_of_mem_take hz))
theorem part_cell {w : World} {b off : Nat} {zs : List Int} (h : Cells16 w b off zs) (i n : Nat) (hi : i + n ≤ 16) : ∀ j, j < (part zs i n).length → w.cell? ⟨b, off + i + j, none⟩ = some (.int .u8 ((part zs i n).getD j 0)) := by
  intro j hj
  rw [part_length _ _ _ (by rw [h.1]; exact hi)] at hj
  rw [show off + i + j = off + (i + j) by omega, h.2.2 (i + j) (by omega)]
  congr 2
  simp only [part, List.getD_eq_getElem?_getD, List.getElem?_take, List.getElem?_drop, if_pos hj]
theorem two_in (zs : List Int) (h : ∀ z ∈ zs, IsByte z) (i : Nat) : 0 ≤ leW (part zs i 2) ∧ leW (part zs i 2) ≤ 65535 := by
  have hb := part_byte zs i 2 h
  have hl : (part zs i 2).length ≤ 2 := by simp [part]; omega
  match hp : part zs i 2, hl with
  | [], _ => decide
  | [a], _ => have := hb a (by rw [hp]; simp); unfold IsByte at this; simp only [leW]; omega
  | [a, b], _ => exact leW2_in a b (hb a (by rw [hp]; simp)) (hb b (by rw [hp]; simp))
theorem word_part (w : World) (b off cap : Nat) (zs : List Int) (h : Cells16 w b off zs) (i n : Nat) (hi : i + n ≤ 16) (hc : 16 ≤ cap) (hcap : cap ≤ 9223372036854775807) :
    Calls Tryd.prog 54 #[.slice (some ⟨b, off + i, none⟩) n (cap - i)] w fun e w' => e = .returned (.int .u32 (leW (part zs i n))) ∧ w = w' := by
  have hl := part_length zs i n (by rw [h.1]; exact hi)
  have c := rWord_any b (off + i) (cap - i) (part zs i n) (part_byte zs i n h.2.1) (by omega) (by omega) (by omega) w (part_cell h i n hi)
  rwa [hl] at c
theorem word_part0 (w : World) (b off cap : Nat) (zs : List Int) (h : Cells16 w b off zs) (hc : 16 ≤ cap) (hcap : cap ≤ 9223372036854775807) :
    Calls Tryd.prog 54 #[.slice (some ⟨b, off, none⟩) 4 cap] w fun e w' => e = .returned (.int .u32 (leW (part zs 0 4))) ∧ w = w' := word_part w b off cap zs h 0 4 (by decide) hc hcap
set_option maxRecDepth 100000 in
theorem rget_any (t : Bool) (b off cap : Nat) (zs : List Int) (w : World) (h : Cells16 w b off zs) (hc : 16 ≤ cap) (hcap : cap ≤ 9223372036854775807) :
    Calls Tryd.prog 40 #[.slice (some ⟨b, off, none⟩) 16 cap, .bool t] w fun e w' =>
      e = .returned (.agg #[.bool t, .int .u32 (leW (part zs 0 4)), .int .u32 (leW (part zs 4 4)), .int .u32 (leW (part zs 8 4)), .int .u16 (leW (part zs 12 2)), .int .u16 (leW (part zs 14 2))]) ∧ Keep w w' := by
  have c0 : (0 : Int) ≤ (cap : Int) := Int.natCast_nonneg _
  have c16 : (16 : Int) ≤ (cap : Int) := by omega
  have c4 : (4 : Int) ≤ (cap : Int) := by omega
  have c8 : (8 : Int) ≤ (cap : Int) := by omega
  have c12 : (12 : Int) ≤ (cap : Int) := by omega
  have c14 : (14 : Int) ≤ (cap : Int) := by omega
  have n4 : ¬ cap = 4 := by omega
  have n8 : ¬ cap = 8 := by omega
  have n12 : ¬ cap = 12 := by omega
  have n14 : ¬ cap = 14 := by omega
  have w12 : IntKind.u16.wrap (leW (part zs 12 2)) = leW (part zs 12 2) := by have := two_in zs h.2.1 12; rw [IntKind.wrap_u16]; omega
  have w14 : IntKind.u16.wrap (leW (part zs 14 2)) = leW (part zs 14 2) := by have := two_in zs h.2.1 14; rw [IntKind.wrap_u16]; omega
  have v12 : leW (part zs 12 2) % 65536 = leW (part zs 12 2) := by have := two_in zs h.2.1 12; omega
  have v14 : leW (part zs 14 2) % 65536 = leW (part zs 14 2) := by have := two_in zs h.2.1 14; omega
  have H := Lib.hid h
  clear h
  go_enter Tryd.func40, Tryd.ntmps40
  go_wp2_with fail
  refine region_grows_tail 19 (Keep _) (by kernel_rfl) (by kernel_rfl) (Keep.refl _).drew ?_
  simp only [List.take_succ_cons, List.take_zero, List.drop_succ_cons, List.drop_zero]
  repeat (first
    | (apply text_step (by rfl)
       · intro W hW
         go_simp
         first
          | exact ⟨rfl, hW⟩
          | (apply yes_enter; go_at_call 54; with_reducible refine (word_part0 W b off cap zs (H.out.keep (((Keep.refl _).alloc _).trans hW)) hc hcap).mono ?_; rintro e w' ⟨rfl, rfl⟩; exact ⟨rfl, hW⟩)
          | (apply yes_enter; go_at_call 54; with_reducible refine (word_part W b off cap zs (H.out.keep (((Keep.refl _).alloc _).trans hW)) 4 4 (by decide) hc hcap).mono ?_; rintro e w' ⟨rfl, rfl⟩; exact ⟨rfl, hW⟩)
          | (apply yes_enter; go_at_call 54; with_reducible refine (word_part W b off cap zs (H.out.keep (((Keep.refl _).alloc _).trans hW)) 8 4 (by decide) hc hcap).mono ?_; rintro e w' ⟨rfl, rfl⟩; exact ⟨rfl, hW⟩)
          | (apply yes_enter; go_at_call 54; with_reducible refine (word_part W b off cap zs (H.out.keep (((Keep.refl _).alloc _).trans hW)) 12 2 (by decide) hc hcap).mono ?_; rintro e w' ⟨rfl, rfl⟩; exact ⟨rfl, hW⟩)
          | (apply yes_enter; go_at_call 54; with_reducible refine (word_part W b off cap zs (H.out.keep (((Keep.refl _).alloc _).trans hW)) 14 2 (by decide) hc hcap).mono ?_; rintro e w' ⟨rfl, rfl⟩; exact ⟨rfl, hW⟩)
       go_simp))
  apply text_end
  intro W hW
  have r0 := ((Box.new _ _ _).keep hW).cells
  have rf := ((Box.new _ _ _).keep hW).thawed
  go_wp2_with fail
  refine bodyPost_ret (v := .agg #[.bool t, .int .u32 (leW (part zs 0 4)), .int .u32 (leW (part zs 4 4)), .int .u32 (leW (part zs 8 4)), .int .u16 (leW (part zs 12 2)), .int .u16 (leW (part zs 14 2))]) (by simp [results, Tryd.results40, go_sem, r0]) rfl ⟨rfl, ?_⟩
  repeat (with_reducible refine Keep.setCell ?_ (by simp <;> omega) _)
  exact ((Keep.refl _).alloc _).trans hW
end Go.Proofs.YtnnelghngekbpaaDoor
