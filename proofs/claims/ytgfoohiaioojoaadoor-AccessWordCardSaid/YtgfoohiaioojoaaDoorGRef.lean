/- RefBytes, RefPut, RefGet, PackFns: The reference's word, Word: numbers in bytes and back. -/
import Derived.Test.YtgfoohiaioojoaaDoorChecked
import Derived.Test.YtgfoohiaioojoaaDoorGBase
import Derived.WalkKit
import Derived.Deep.RegionHeld3
import Derived.Deep.AppendLies
import Derived.WalkSpells
import Derived.OwnWalk
/- The reference's word, Word: numbers in bytes and back. -/
namespace Go.Proofs.YtgfoohiaioojoaaDoor
set_option linter.unusedVariables false
set_option linter.unusedSimpArgs false
open Go.RowKit

def u8s (l : List Int) : Array Value := (l.map (Value.int .u8)).toArray
theorem rword_any (v : Int) (hv : 0 ≤ v ∧ v ≤ 4294967295) (w : World) :
    Calls Tryd.prog 58 #[.int .u32 v] w fun e w' => e = .returned (.slice (some ⟨w.heap.size, 0, none⟩) 4 4) ∧ w.alloc (.cells (u8s (b4 v)) 5) = w' := by
  obtain ⟨v0, v1⟩ := hv
  have E := Lib.hid (show v / 16777216 % 256 = v / 16777216 by omega)
  go_enter Tryd.func58, Tryd.ntmps58
  go_wp2
  go_ret
  exact ⟨rfl, by rw [u8s, b4, E.out]; rfl⟩
/-- Of a slice whose bytes are zs. -/
theorem rWord_any (b off cap : Nat) (zs : List Int) (hz : ∀ z ∈ zs, IsByte z) (hn : zs.length ≤ 16) (hb : zs.length ≤ cap) (hcap : cap ≤ 9223372036854775807) (w : World)
    (hc : ∀ j, j < zs.length → w.cell? ⟨b, off + j, none⟩ = some (.int .u8 (zs.getD j 0))) :
    Calls Tryd.prog 50 #[.slice (some ⟨b, off, none⟩) zs.length cap] w fun e w' => e = .returned (.int .u32 (leW zs)) ∧ w = w' := by
  obtain ⟨n, hnn⟩ : ∃ n, n = zs.length := ⟨_, rfl⟩
  rw [← hnn] at hc hn hb ⊢
  have HN := Lib.hid hnn
  clear hnn
  have HZ := Lib.hid hz
  have HC := Lib.hid hc
  clear hz hc
  go_enter Tryd.func50, Tryd.ntmps50
  go_wp2
  go_loop [3, 4] (fun v i => ∃ k : Nat, k ≤ n ∧ v = .int .u32 (leW (zs.drop k)) ∧ i = .int .i64 ((k : Int) - 1)) (fun _ i => (intOf i + 1).toNat)
  case atStart => exact ⟨n, Nat.le_refl _, by rw [HN.out, List.drop_length]; rfl, by go_num⟩
  case round =>
    obtain ⟨k, hk, rfl, rfl⟩ := hrel
    obtain ⟨x, hx⟩ : ∃ x, x = leW (zs.drop k) := ⟨_, rfl⟩
    rw [← hx]
    have hxb : 0 ≤ x ∧ x ≤ 4294967295 := by rw [hx]; exact leW_in _ (fun z hz => HZ.out z (List.mem_of_mem_drop hz))
    have HX := Lib.hid hx
    clear hx
    obtain ⟨x0, x1⟩ := hxb
    by_cases h : 1 ≤ k
    · obtain ⟨j, rfl⟩ : ∃ j, k = j + 1 := ⟨k - 1, by omega⟩
      obtain ⟨z, hz⟩ : ∃ z, z = zs.getD j 0 := ⟨_, rfl⟩
      have hcell := HC.out j (by omega)
      rw [← hz] at hcell
      have hj : j < zs.length := by have := HN.out; omega
      have hmem : z = zs[j] := by rw [hz, List.getD_eq_getElem?_getD, List.getElem?_eq_getElem hj]; rfl
      have hbz : IsByte z := by rw [hmem]; exact HZ.out _ (List.getElem_mem hj)
      have hor := or_byte x z ⟨x0, x1⟩ hbz
      have hstep : Hid (leW (zs.drop j) = x * 256 % 4294967296 + z) := Lib.hid (by rw [List.drop_eq_getElem_cons hj, leW, ← hmem, HX.out])
      have HB := hbz
      unfold IsByte at HB
      obtain ⟨z0, z1⟩ := HB
      have e1 : ((j + 1 : Nat) : Int) - 1 = (j : Int) := by omega
      rw [e1]
      clear hz hmem hbz e1
      go_wp2
      go_round
      case rel => exact ⟨j, by omega, congrArg (Value.int .u32) hstep.out.symm, rfl⟩
      case measure => simp [intOf]
    · obtain rfl : k = 0 := by omega
      go_wp2
      go_ret
      exact ⟨by rw [HX.out, List.drop_zero]; rfl, rfl⟩
end Go.Proofs.YtgfoohiaioojoaaDoor

/- The reference's Put: a capability's sixteen bytes, in a row of the call's own. -/
namespace Go.Proofs.YtgfoohiaioojoaaDoor
set_option linter.unusedVariables false
set_option linter.unusedSimpArgs false
open Go.RowKit

theorem infoU8 : (Tryd.prog.info? 5).map (fun i => (i.zero, i.size, i.bytes)) = some (some (.int .u8 0), 1, 1) := by kernel_rfl
theorem u8s_one (l : List Int) : ∀ u ∈ l.map (Value.int .u8), u.oneCell' = true := by
  intro u hu
  obtain ⟨z, _, rfl⟩ := List.mem_map.1 hu
  rfl
/-- A row that is laid whole is owned. -/
theorem owns_new (w : World) (l : List Int) (n : Nat) (hn : l.length = n) (hm : n ≤ 1000) (base : Nat) (hb : base ≤ w.heap.size) :
    (w.alloc (.cells (u8s l) 5)).ownsRow base 5 1 (.slice (some ⟨w.heap.size, 0, none⟩) n n) n (l.map (Value.int .u8)) := by
  refine ⟨by simp [hn], .inr ⟨w.heap.size, n, u8s l, rfl, hb, heap_alloc_new w _, Nat.le_refl _, by unfold maxLen; omega, by simp [u8s, hn], by simp only [u8s, Nat.mul_one, ← hn]; rw [List.take_of_length_le (by simp)]⟩⟩
theorem owns_new1 (w : World) (o : Obj) (l : List Int) (n : Nat) (hn : l.length = n) (hm : n ≤ 1000) :
    ((w.alloc o).alloc (.cells (u8s l) 5)).ownsRow w.heap.size 5 1 (.slice (some ⟨w.heap.size + 1, 0, none⟩) n n) n (l.map (Value.int .u8)) := by
  have h := owns_new (w.alloc o) l n hn hm w.heap.size (by simp)
  have e : (w.alloc o).heap.size = w.heap.size + 1 := by simp
  rwa [e] at h
theorem heap_new2 (w : World) (o o2 o3 : Obj) : (((w.alloc o).alloc o2).alloc o3).heap[w.heap.size + 1 + 1]? = some o3 := by
  have h := heap_alloc_new ((w.alloc o).alloc o2) o3
  have e : ((w.alloc o).alloc o2).heap.size = w.heap.size + 1 + 1 := by simp
  rwa [e] at h
/-- A row of the call's own that holds l; what was there stays. -/
def PutP (w : World) (l : List Int) (e : Ending) (w' : World) : Prop :=
  ∃ g cap, e = .returned (.slice (some ⟨g, 0, none⟩) l.length cap) ∧ w'.ownsRow w.heap.size 5 1 (.slice (some ⟨g, 0, none⟩) l.length cap) l.length (l.map (Value.int .u8)) ∧ Keep w w'
set_option maxRecDepth 100000 in
set_option maxHeartbeats 2000000 in
theorem rput_any (t : Bool) (b p a m y : Int) (hb : 0 ≤ b ∧ b ≤ 4294967295) (hp : 0 ≤ p ∧ p ≤ 4294967295) (ha : 0 ≤ a ∧ a ≤ 4294967295) (hm : 0 ≤ m ∧ m ≤ 65535) (hy : 0 ≤ y ∧ y ≤ 65535) (w : World) :
    Calls Tryd.prog 79 #[.agg #[.bool t, .int .u32 b, .int .u32 p, .int .u32 a, .int .u16 m, .int .u16 y]] w (PutP w (putL b p a m y)) := by
  obtain ⟨i0, hi0, hz0, hz1, hz2⟩ := info_parts infoU8
  go_enter Tryd.func79, Tryd.ntmps79
  go_wp2_with fail
  go_region_held3 (fun w' => w'.cell? ⟨w.heap.size, 1, none⟩ = some (.int .u32 b) ∧ w'.cell? ⟨w.heap.size, 2, none⟩ = some (.int .u32 p))
    (first | go_keep | (go_split_ands; refine ⟨?_, ?_⟩ <;> (rw [hgrow.cell_far _ (by simp; omega) (by simp [Value.ownBlock])]; go_keep)))
    (first
      | (go_at_call 58; refine (rword_any _ ?_ _).mono ?_; (· omega); rintro e w' ⟨rfl, rfl⟩)
      | (refine step_append_lies _ (by rfl) _ _ _ (by rfl) w.heap.size 5 i0 _ 1 1 Tryd.underlying37 hi0 hz0 hz1 hz2 rfl (by decide) (.slice (some ⟨w.heap.size + 1, 0, none⟩) 4 4) 4 ((b4 b).map (Value.int .u8)) (by rfl) (((owns_new1 w _ (b4 b) 4 (by rfl) (by decide)).alloc _).drew) ⟨w.heap.size + 1 + 1, 0, none⟩ 4 4 ((b4 p).map (Value.int .u8)) (by rfl) (by rfl) (World.news_of_block (cs := u8s (b4 p)) (t := 5) (fr := (0, 0)) (heap_new2 w _ _ _)) (u8s_one _) (by decide) (by unfold maxLen; decide) (by decide) (by simp; omega) (w.heap.size + 1 + 1 + 1) (by simp) ?_; intro g cap w1 hown hgrow hat hlt))
  have B0 : Box w1 w.heap.size #[.bool t, .int .u32 b, .int .u32 p, .int .u32 a, .int .u16 m, .int .u16 y] := grown_box hgrow (((Box.new _ _ _).alloc _).alloc _).drew (by simp [Value.ownBlock])
  have K1 : Keep w w1 := grown_keep (((((Keep.refl _).alloc _).alloc _).alloc _).drew) hgrow (by simp [Value.ownBlock])
  have hg0 : w.heap.size < g := by simp [Value.ownBlock] at hat; omega
  have hs1 := K1.size
  have l0 := B0.lt
  clear hgrow hat
  rw [← List.map_append] at hown
  have c0 := B0.cells
  go_wp2_with fail
  refine (rword_any _ ha _).mono ?_
  rintro e w' ⟨rfl, rfl⟩
  obtain ⟨m0, m1⟩ := hm
  obtain ⟨y0, y1⟩ := hy
  go_wp2_with (first
    | (at_builtin; refine wpList_append_lies _ (by rfl) (.tmp 11) (.tmp 14) _ (by rfl) w.heap.size 5 i0 _ 1 1 Tryd.underlying37 hi0 hz0 hz1 hz2 rfl (by decide) (.slice (some ⟨g, 0, none⟩) 8 cap) 8 _ (by rfl) (hown.alloc _) ⟨w1.heap.size, 0, none⟩ 4 4 ((b4 a).map (Value.int .u8)) (by rfl) (by rfl) (World.news_of_block (cs := u8s (b4 a)) (t := 5) (fr := (0, 0)) (heap_alloc_new w1 _)) (by exact u8s_one _) (by decide) (by unfold maxLen; decide) (by decide) (by simp; omega) (w1.heap.size + 1) (by simp) ?_; intro g2 cap2 w2 hown2 hgrow2 hat2 hlt2; have B1 := grown_box hgrow2 (B0.alloc _) (by simp [Value.ownBlock]; omega); have c1 := B1.cells; have K2 := grown_keep (K1.alloc _) hgrow2 (by simp [Value.ownBlock]; omega); have hs2 := K2.size)
    | (at_builtin; refine wpList_append_lies _ (by rfl) (.tmp 16) (.tmp 31) _ (by rfl) w.heap.size 5 i0 _ 1 1 Tryd.underlying37 hi0 hz0 hz1 hz2 rfl (by decide) (.slice (some ⟨g2, 0, none⟩) 12 cap2) 12 _ (by rfl) (hown2.alloc _) ⟨w2.heap.size, 0, none⟩ 4 4 [.int .u8 (m % 256), .int .u8 (m / 256), .int .u8 (y % 256), .int .u8 (y / 256)] (by rfl) (by rfl) (World.news_of_block (cs := #[.int .u8 (m % 256), .int .u8 (m / 256), .int .u8 (y % 256), .int .u8 (y / 256)]) (t := 5) (fr := (0, 0)) (heap_alloc_new w2 _)) (by simp [Value.oneCell']) (by decide) (by unfold maxLen; decide) (by decide) (by simp; omega) (w2.heap.size + 1) (by simp) ?_; intro g3 cap3 w3 hown3 hgrow3 hat3 hlt3; have K3 := grown_keep (K2.alloc _) hgrow3 (by simp [Value.ownBlock] at hat2 ⊢; omega)))
  go_ret
  refine ⟨g3, cap3, rfl, ?_, K3⟩
  have em : m / 256 % 256 = m / 256 := by omega
  have ey : y / 256 % 256 = y / 256 := by omega
  have e : (putL b p a m y).map (Value.int .u8) = (b4 b ++ b4 p).map (Value.int .u8) ++ (b4 a).map (Value.int .u8) ++ [.int .u8 (m % 256), .int .u8 (m / 256), .int .u8 (y % 256), .int .u8 (y / 256)] := by
    simp only [putL, b2, em, ey, List.map_append, List.append_assoc, List.map_cons, List.map_nil]
    rfl
  rw [e]
  exact hown3
end Go.Proofs.YtgfoohiaioojoaaDoor

/- The reference's Get: sixteen bytes as a capability. -/
namespace Go.Proofs.YtgfoohiaioojoaaDoor
set_option linter.unusedVariables false
set_option linter.unusedSimpArgs false
open Go.RowKit

/-- Sixteen bytes of a slice. -/
def Cells16 (w : World) (b off : Nat) (zs : List Int) : Prop := zs.length = 16 ∧ (∀ z ∈ zs, IsByte z) ∧ ∀ j, j < 16 → w.cell? ⟨b, off + j, none⟩ = some (.int .u8 (zs.getD j 0))
theorem Cells16.keep {w w' : World} {b off : Nat} {zs : List Int} (h : Cells16 w b off zs) (k : Keep w w') : Cells16 w' b off zs := ⟨h.1, h.2.1, fun j hj => k.cellOf (h.2.2 j hj)⟩
def part (zs : List Int) (i n : Nat) : List Int := (zs.drop i).take n
theorem part_length (zs : List Int) (i n : Nat) (h : i + n ≤ zs.length) : (part zs i n).length = n := by simp [part]; omega
theorem part_byte (zs : List Int) (i n : Nat) (h : ∀ z ∈ zs, IsByte z) : ∀ z ∈ part zs i n, IsByte z := fun z hz => h z (List.mem_of_mem_drop (List.mem_of_mem_take hz))
theorem part_cell {w : World} {b off : Nat} {zs : List Int} (h : Cells16 w b off zs) (i n : Nat) (hi : i + n ≤ 16) : ∀ j, j < (part zs i n).length → w.cell? ⟨b, off + i + j, none⟩ = some (.int .u8 ((part zs i n).getD j 0)) := by
  intro j hj
  rw [part_length _ _ _ (by rw [h.1]; exact hi)] at hj
  rw [show off + i + j = off + (i + j) by omega, h.2.2 (i + j) (by omega)]
  congr 2
  simp only [part, List.getD_eq_getElem?_getD, List.getElem?_take, List.getElem?_drop, if_pos hj]
theorem two_in (zs : List Int) (h : ∀ z ∈ zs, IsByte z) (i : Nat) : 0 ≤ leW (part zs i 2) ∧ leW (part zs i 2) ≤ 65535 := by
  have hb := part_byte zs i 2 h
  have hl : (part zs i 2).length ≤ 2 := by simp [part]; omega
  match hp : part zs i 2, hl with
  | [], _ => decide
  | [a], _ => have := hb a (by rw [hp]; simp); unfold IsByte at this; simp only [leW]; omega
  | [a, b], _ => exact leW2_in a b (hb a (by rw [hp]; simp)) (hb b (by rw [hp]; simp))
theorem word_part (w : World) (b off cap : Nat) (zs : List Int) (h : Cells16 w b off zs) (i n : Nat) (hi : i + n ≤ 16) (hc : 16 ≤ cap) (hcap : cap ≤ 9223372036854775807) :
    Calls Tryd.prog 50 #[.slice (some ⟨b, off + i, none⟩) n (cap - i)] w fun e w' => e = .returned (.int .u32 (leW (part zs i n))) ∧ w = w' := by
  have hl := part_length zs i n (by rw [h.1]; exact hi)
  have c := rWord_any b (off + i) (cap - i) (part zs i n) (part_byte zs i n h.2.1) (by omega) (by omega) (by omega) w (part_cell h i n hi)
  rwa [hl] at c
theorem word_part0 (w : World) (b off cap : Nat) (zs : List Int) (h : Cells16 w b off zs) (hc : 16 ≤ cap) (hcap : cap ≤ 9223372036854775807) :
    Calls Tryd.prog 50 #[.slice (some ⟨b, off, none⟩) 4 cap] w fun e w' => e = .returned (.int .u32 (leW (part zs 0 4))) ∧ w = w' := word_part w b off cap zs h 0 4 (by decide) hc hcap
set_option maxRecDepth 100000 in
theorem rget_any (t : Bool) (b off cap : Nat) (zs : List Int) (w : World) (h : Cells16 w b off zs) (hc : 16 ≤ cap) (hcap : cap ≤ 9223372036854775807) :
    Calls Tryd.prog 82 #[.slice (some ⟨b, off, none⟩) 16 cap, .bool t] w fun e w' =>
      e = .returned (.agg #[.bool t, .int .u32 (leW (part zs 0 4)), .int .u32 (leW (part zs 4 4)), .int .u32 (leW (part zs 8 4)), .int .u16 (leW (part zs 12 2)), .int .u16 (leW (part zs 14 2))]) ∧ Keep w w' := by
  have c0 : (0 : Int) ≤ (cap : Int) := Int.natCast_nonneg _
  have c16 : (16 : Int) ≤ (cap : Int) := by omega
  have c4 : (4 : Int) ≤ (cap : Int) := by omega
  have c8 : (8 : Int) ≤ (cap : Int) := by omega
  have c12 : (12 : Int) ≤ (cap : Int) := by omega
  have c14 : (14 : Int) ≤ (cap : Int) := by omega
  have n4 : ¬ cap = 4 := by omega
  have n8 : ¬ cap = 8 := by omega
  have n12 : ¬ cap = 12 := by omega
  have n14 : ¬ cap = 14 := by omega
  have w12 : IntKind.u16.wrap (leW (part zs 12 2)) = leW (part zs 12 2) := by have := two_in zs h.2.1 12; rw [IntKind.wrap_u16]; omega
  have w14 : IntKind.u16.wrap (leW (part zs 14 2)) = leW (part zs 14 2) := by have := two_in zs h.2.1 14; rw [IntKind.wrap_u16]; omega
  have v12 : leW (part zs 12 2) % 65536 = leW (part zs 12 2) := by have := two_in zs h.2.1 12; omega
  have v14 : leW (part zs 14 2) % 65536 = leW (part zs 14 2) := by have := two_in zs h.2.1 14; omega
  have H := Lib.hid h
  clear h
  go_enter Tryd.func82, Tryd.ntmps82
  go_wp2_with fail
  refine region_grows_tail 19 (Keep _) (by kernel_rfl) (by kernel_rfl) (Keep.refl _).drew ?_
  simp only [List.take_succ_cons, List.take_zero, List.drop_succ_cons, List.drop_zero]
  repeat (first
    | (apply text_step (by rfl)
       · intro W hW
         go_simp
         first
          | exact ⟨rfl, hW⟩
          | (apply yes_enter; go_at_call 50; with_reducible refine (word_part0 W b off cap zs (H.out.keep (((Keep.refl _).alloc _).trans hW)) hc hcap).mono ?_; rintro e w' ⟨rfl, rfl⟩; exact ⟨rfl, hW⟩)
          | (apply yes_enter; go_at_call 50; with_reducible refine (word_part W b off cap zs (H.out.keep (((Keep.refl _).alloc _).trans hW)) 4 4 (by decide) hc hcap).mono ?_; rintro e w' ⟨rfl, rfl⟩; exact ⟨rfl, hW⟩)
          | (apply yes_enter; go_at_call 50; with_reducible refine (word_part W b off cap zs (H.out.keep (((Keep.refl _).alloc _).trans hW)) 8 4 (by decide) hc hcap).mono ?_; rintro e w' ⟨rfl, rfl⟩; exact ⟨rfl, hW⟩)
          | (apply yes_enter; go_at_call 50; with_reducible refine (word_part W b off cap zs (H.out.keep (((Keep.refl _).alloc _).trans hW)) 12 2 (by decide) hc hcap).mono ?_; rintro e w' ⟨rfl, rfl⟩; exact ⟨rfl, hW⟩)
          | (apply yes_enter; go_at_call 50; with_reducible refine (word_part W b off cap zs (H.out.keep (((Keep.refl _).alloc _).trans hW)) 14 2 (by decide) hc hcap).mono ?_; rintro e w' ⟨rfl, rfl⟩; exact ⟨rfl, hW⟩)
       go_simp))
  apply text_end
  intro W hW
  have r0 := ((Box.new _ _ _).keep hW).cells
  have rf := ((Box.new _ _ _).keep hW).thawed
  go_wp2_with fail
  refine bodyPost_ret (v := .agg #[.bool t, .int .u32 (leW (part zs 0 4)), .int .u32 (leW (part zs 4 4)), .int .u32 (leW (part zs 8 4)), .int .u16 (leW (part zs 12 2)), .int .u16 (leW (part zs 14 2))]) (by simp [results, Tryd.results82, go_sem, r0]) rfl ⟨rfl, ?_⟩
  repeat (with_reducible refine Keep.setCell ?_ (by simp <;> omega) _)
  exact ((Keep.refl _).alloc _).trans hW
end Go.Proofs.YtgfoohiaioojoaaDoor

/- Package pack's functions: put, get by their loops. -/
namespace Go.Proofs.YtgfoohiaioojoaaDoor
set_option linter.unusedVariables false
set_option linter.unusedSimpArgs false
open Go.RowKit
/-- n bytes of v, the lowest first, from cell off on. -/
def fillV (vs : Array Value) (off : Nat) (v : Int) : Nat → Array Value
  | 0 => vs
  | k + 1 => (fillV vs off v k).setIfInBounds (off + k) (.int .u8 (v / 256 ^ k % 256))
theorem fillV_size (vs : Array Value) (off : Nat) (v : Int) (k : Nat) : (fillV vs off v k).size = vs.size := by
  induction k with
  | zero => rfl
  | succ k ih => simp [fillV, ih]
theorem div_step (v : Int) (k : Nat) : v / 256 ^ k / 256 = v / 256 ^ (k + 1) := by
  rw [Int.pow_succ, Int.ediv_ediv_of_nonneg (Int.le_of_lt (Int.pow_pos (by decide)))]
theorem div_in (v : Int) (hv : 0 ≤ v ∧ v ≤ 4294967295) (k : Nat) : 0 ≤ v / 256 ^ k ∧ v / 256 ^ k ≤ 4294967295 := by
  have hp : (0 : Int) < 256 ^ k := Int.pow_pos (by decide)
  refine ⟨Int.ediv_nonneg hv.1 (Int.le_of_lt hp), ?_⟩
  have := Int.ediv_le_self (256 ^ k) hv.1
  omega
/-- What was there ahead of block b stays. -/
theorem pput_any (b off cap n : Nat) (v : Int) (hv : 0 ≤ v ∧ v ≤ 4294967295) (vs : Array Value) (w : World) (hB : Box w b vs) (hn : off + n ≤ vs.size) (hn2 : n ≤ 4) :
    Calls Tryd.prog 85 #[.slice (some ⟨b, off, none⟩) n cap, .int .u32 v] w fun e w' => e = .returned (.tuple #[]) ∧ Box w' b (fillV vs off v n) ∧ ∀ W0 : World, Keep W0 w → W0.heap.size ≤ b → Keep W0 w' := by
  have HB := Lib.hid hB
  have HV := Lib.hid hv
  clear hB hv
  go_enter Tryd.func85, Tryd.ntmps85
  go_wp2_with fail
  go_loopw [1, 7] (fun x i wr => ∃ k : Nat, k ≤ n ∧ i = .int .i64 (k : Int) ∧ x = .int .u32 (v / 256 ^ k) ∧ Box wr b (fillV vs off v k) ∧ ∀ W0 : World, Keep W0 w → W0.heap.size ≤ b → Keep W0 wr) (fun _ i _ => n - (intOf i).toNat)
  case atStart => exact ⟨0, Nat.zero_le _, rfl, by simp, HB.out, fun W0 h _ => h⟩
  case round =>
    obtain ⟨k, hk, rfl, rfl, hR, hK⟩ := hrel
    have k0 : (0 : Int) ≤ (k : Int) := Int.natCast_nonneg _
    obtain ⟨X, hX⟩ : ∃ X, X = v / 256 ^ k := ⟨_, rfl⟩
    have hXb := div_in v HV.out k
    have hXs := div_step v k
    rw [← hX] at hXb hXs ⊢
    have HX := Lib.hid hX
    have HXs := Lib.hid hXs
    obtain ⟨x0, x1⟩ := hXb
    clear hX hXs
    by_cases h : k < n
    · have hkN : (k : Int) < (n : Int) := by omega
      have hs : off + k < (fillV vs off v k).size := by rw [fillV_size]; omega
      have hc : wr.cell? ⟨b, off + k, none⟩ = some ((fillV vs off v k)[off + k]) := by
        rw [hR.cells, Array.getElem?_eq_getElem hs]
      have hf := hR.thawed
      have HR := Lib.hid hR
      have HK := Lib.hid hK
      clear hR hK
      go_wp2_with fail
      refine ⟨⟨k + 1, h, rfl, ?_, by rw [fillV, ← HX.out]; exact HR.out.set _ _, fun W0 h1 h2 => (HK.out W0 h1 h2).setCell h2 _⟩, ?_⟩
      · rw [HXs.out]
      · simp [intOf]; omega
    · obtain rfl : k = n := by omega
      go_wp2_with fail
      go_end0
      exact ⟨rfl, hR, hK⟩
/-- A number beneath so many noughts. -/
theorem or_nat (X Z p : Nat) (h : X < 2 ^ p) : X ||| Z * 2 ^ p = X + Z * 2 ^ p := by
  have h2 := Nat.two_pow_add_eq_or_of_lt h Z
  rw [Nat.mul_comm Z, Nat.or_comm, ← h2, Nat.add_comm]
theorem or_at (x z q : Int) (p : Nat) (hq : q = 2 ^ p) (h1 : 256 * q ≤ 4294967296) (hx : 0 ≤ x ∧ x < q) (hz : IsByte z) : bits .or .u32 x (z * q) = x + z * q := by
  unfold IsByte at hz
  obtain ⟨Z, rfl⟩ := Int.eq_ofNat_of_zero_le hz.1
  obtain ⟨X, rfl⟩ := Int.eq_ofNat_of_zero_le hx.1
  obtain ⟨Q, hQ⟩ : ∃ Q : Nat, Q = 2 ^ p := ⟨_, rfl⟩
  have e : q = (Q : Int) := by rw [hq, hQ]; simp
  subst e
  have hz1 : Z ≤ 255 := by omega
  have hm : Z * Q ≤ 255 * Q := Nat.mul_le_mul_right _ hz1
  have hX : X < 2 ^ p := by rw [← hQ]; omega
  have h3 := or_nat X Z p hX
  rw [← hQ] at h3
  rw [← Int.natCast_mul, u32_or _ _ (by omega) (by omega) (by omega) (by omega)]
  simp only [Int.toNat_natCast, h3]
  simp
theorem leW_snoc (z : Int) (hz : IsByte z) : ∀ (l : List Int), (∀ y ∈ l, IsByte y) → l.length < 4 → leW (l ++ [z]) = leW l + z * 256 ^ l.length ∧ 0 ≤ leW l ∧ leW l < 256 ^ l.length := by
  unfold IsByte at hz
  intro l hl hn
  match l, hl, hn with
  | [], _, _ => simp [leW]
  | [a], hl, _ =>
    have ha := hl a (by simp)
    unfold IsByte at ha
    simp only [List.cons_append, List.nil_append, leW, List.length_cons, List.length_nil, Int.reducePow, Nat.reduceAdd]
    omega
  | [a, b], hl, _ =>
    have ha := hl a (by simp)
    have hb := hl b (by simp)
    unfold IsByte at ha hb
    simp only [List.cons_append, List.nil_append, leW, List.length_cons, List.length_nil, Int.reducePow, Nat.reduceAdd]
    omega
  | [a, b, c], hl, _ =>
    have ha := hl a (by simp)
    have hb := hl b (by simp)
    have hc := hl c (by simp)
    unfold IsByte at ha hb hc
    simp only [List.cons_append, List.nil_append, leW, List.length_cons, List.length_nil, Int.reducePow, Nat.reduceAdd]
    omega
theorem pget_any (b off cap : Nat) (zs : List Int) (hz : ∀ z ∈ zs, IsByte z) (hn : zs.length ≤ 4) (hb : zs.length ≤ cap) (hcap : cap ≤ 9223372036854775807) (w : World)
    (hc : ∀ j, j < zs.length → w.cell? ⟨b, off + j, none⟩ = some (.int .u8 (zs.getD j 0))) :
    Calls Tryd.prog 86 #[.slice (some ⟨b, off, none⟩) zs.length cap] w fun e w' => e = .returned (.int .u32 (leW zs)) ∧ w = w' := by
  obtain ⟨n, hnn⟩ : ∃ n, n = zs.length := ⟨_, rfl⟩
  rw [← hnn] at hc hn hb ⊢
  have HN := Lib.hid hnn
  clear hnn
  have HZ := Lib.hid hz
  have HC := Lib.hid hc
  clear hz hc
  go_enter Tryd.func86, Tryd.ntmps86
  go_wp2_with fail
  go_loop [3, 8] (fun v i => ∃ k : Nat, k ≤ n ∧ v = .int .u32 (leW (zs.take k)) ∧ i = .int .i64 (k : Int)) (fun _ i => n - (intOf i).toNat)
  case atStart => exact ⟨0, Nat.zero_le _, rfl, rfl⟩
  case round =>
    obtain ⟨k, hk, rfl, rfl⟩ := hrel
    by_cases h : k < n
    · have hcell := HC.out k (by omega)
      have hkx : k < zs.length := by rw [← HN.out]; exact h
      obtain ⟨z, hz⟩ : ∃ z, z = zs.getD k 0 := ⟨_, rfl⟩
      have hmem : z = zs[k] := by rw [hz, List.getD_eq_getElem?_getD, List.getElem?_eq_getElem hkx]; rfl
      have hbz : IsByte z := by rw [hmem]; exact HZ.out _ (List.getElem_mem hkx)
      have hs := leW_snoc z hbz (zs.take k) (fun y hy => HZ.out y (List.mem_of_mem_take hy)) (by simp; omega)
      have hl : (zs.take k).length = k := by simp; omega
      rw [hl, hmem, ← List.take_succ_eq_append_getElem hkx, ← hmem] at hs
      obtain ⟨x, hx⟩ : ∃ x, x = leW (zs.take k) := ⟨_, rfl⟩
      rw [← hx] at hs ⊢
      rw [← hz] at hcell
      obtain ⟨hs1, hs2⟩ := hs
      have HS := Lib.hid hs1
      have HB := Lib.hid hbz
      unfold IsByte at hbz
      clear hx hmem hl hkx hz hs1
      rcases (by omega : k = 0 ∨ k = 1 ∨ k = 2 ∨ k = 3) with rfl | rfl | rfl | rfl
      · have ho := or_at x z 1 0 rfl (by decide) (by simpa using hs2) HB.out
        simp only [Nat.add_zero, Int.reducePow, Int.pow_zero, Int.mul_one] at hcell hs2 ho
        go_wp2_with fail
        refine ⟨⟨1, h, ?_, rfl⟩, by simp [intOf]; omega⟩
        have e := HS.out
        simp only [Int.reducePow, Int.pow_zero, Int.mul_one, Nat.reduceAdd] at e
        first | rw [e] | (rw [ho, e])
      · have ho := or_at x z 256 8 rfl (by decide) (by simpa using hs2) HB.out
        simp only [Nat.add_zero, Int.reducePow, Int.pow_zero, Int.mul_one] at hcell hs2 ho
        go_wp2_with fail
        refine ⟨⟨2, h, ?_, rfl⟩, by simp [intOf]; omega⟩
        have e := HS.out
        simp only [Int.reducePow, Int.pow_zero, Int.mul_one, Nat.reduceAdd] at e
        first | rw [e] | (rw [ho, e])
      · have ho := or_at x z 65536 16 rfl (by decide) (by simpa using hs2) HB.out
        simp only [Nat.add_zero, Int.reducePow, Int.pow_zero, Int.mul_one] at hcell hs2 ho
        go_wp2_with fail
        refine ⟨⟨3, h, ?_, rfl⟩, by simp [intOf]; omega⟩
        have e := HS.out
        simp only [Int.reducePow, Int.pow_zero, Int.mul_one, Nat.reduceAdd] at e
        first | rw [e] | (rw [ho, e])
      · have ho := or_at x z 16777216 24 rfl (by decide) (by simpa using hs2) HB.out
        simp only [Nat.add_zero, Int.reducePow, Int.pow_zero, Int.mul_one] at hcell hs2 ho
        go_wp2_with fail
        refine ⟨⟨4, h, ?_, rfl⟩, by simp [intOf]; omega⟩
        have e := HS.out
        simp only [Int.reducePow, Int.pow_zero, Int.mul_one, Nat.reduceAdd] at e
        first | rw [e] | (rw [ho, e])
    · obtain rfl : k = n := by omega
      go_wp2_with fail
      go_ret
      exact ⟨by show Ending.returned (.int .u32 (leW (zs.take k))) = _; rw [HN.out, List.take_length], rfl⟩
end Go.Proofs.YtgfoohiaioojoaaDoor
