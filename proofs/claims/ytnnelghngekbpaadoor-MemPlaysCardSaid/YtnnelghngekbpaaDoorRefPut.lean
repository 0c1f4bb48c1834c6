/- The reference's Put: a capability's sixteen bytes, in a row of the call's own. -/
import Derived.Test.YtnnelghngekbpaaDoorRefBytes
import Derived.Deep.RegionHeld3
import Derived.Deep.AppendLies
import Derived.WalkSpells
import Derived.OwnWalk
namespace Go.Proofs.YtnnelghngekbpaaDoor
set_option linter.unusedVariables false
set_option linter.unusedSimpArgs false
open Go.RowKit

theorem infoU8 : (Tryd.prog.info? 5).map (fun i => (i.zero, i.size, i.bytes)) = some (some (.int .u8 0), 1, 1) := by kernel_rfl
theorem u8s_one (l : List Int) : ∀ u ∈ l.map (Value.int .u8), u.oneCell' = true := by
  intro u hu
  obtain ⟨z, _, rfl⟩ := List.mem_map.1 hu
  rfl
/-- A row that is laid whole is owned. -/
theorem owns_new (w : World) (l : List Int) (n : Nat) (hn : l.length = n) (hm : n ≤ 1000) (base : Nat) (hb : base ≤ w.heap.size) :
    (w.alloc (.cells (u8s l) 5)).ownsRow base 5 1 (.slice (some ⟨w.heap.size, 0, none⟩) n n) n (l.map (Value.int .u8)) := by
  refine ⟨by simp [hn], .inr ⟨w.heap.size, n, u8s l, rfl, hb, heap_alloc_new w _, Nat.le_refl _, by unfold maxLen; omega, by simp [u8s, hn], by simp only [u8s, Nat.mul_one, ← hn]; rw [List.take_of_length_le (by simp)]⟩⟩
theorem owns_new1 (w : World) (o : Obj) (l : List Int) (n : Nat) (hn : l.length = n) (hm : n ≤ 1000) :
    ((w.alloc o).alloc (.cells (u8s l) 5)).ownsRow w.heap.size 5 1 (.slice (some ⟨w.heap.size + 1, 0, none⟩) n n) n (l.map (Value.int .u8)) := by
  have h := owns_new (w.alloc o) l n hn hm w.heap.size (by simp)
  have e : (w.alloc o).heap.size = w.heap.size + 1 := by simp
  rwa [e] at h
theorem heap_new2 (w : World) (o o2 o3 : Obj) : (((w.alloc o).alloc o2).alloc o3).heap[w.heap.size + 1 + 1]? = some o3 := by
  have h := heap_alloc_new ((w.alloc o).alloc o2) o3
  have e : ((w.alloc o).alloc o2).heap.size = w.heap.size + 1 + 1 := by simp
  rwa [e] at h
theorem grown_box {W w1 : World} {row : Option Nat} (hg : W.grownBy w1 row) {c : Nat} {vs : Array Value} (hb : Box W c vs) (hne : some c ≠ row) : Box w1 c vs := by
  have hl := hb.lt
  obtain ⟨t, h⟩ := hb
  exact ⟨t, by rw [hg.block c hl hne]; exact h⟩
theorem grown_keep {w W w1 : World} {row : Option Nat} (k : Keep w W) (hg : W.grownBy w1 row) (hr : ∀ c, row = some c → w.heap.size ≤ c) : Keep w w1 := Below.grown k hg (Below.size k) hr
/-- A row of the call's own that holds l; what was there stays. -/
def PutP (w : World) (l : List Int) (e : Ending) (w' : World) : Prop :=
  ∃ g cap, e = .returned (.slice (some ⟨g, 0, none⟩) l.length cap) ∧ w'.ownsRow w.heap.size 5 1 (.slice (some ⟨g, 0, none⟩) l.length cap) l.length (l.map (Value.int .u8)) ∧ Keep w w'
set_option maxRecDepth 100000 in
set_option maxHeartbeats 2000000 in
theorem rput_any (t : Bool) (b p a m y : Int) (hb : 0 ≤ b ∧ b ≤ 4294967295) (hp : 0 ≤ p ∧ p ≤ 4294967295) (ha : 0 ≤ a ∧ a ≤ 4294967295) (hm : 0 ≤ m ∧ m ≤ 65535) (hy : 0 ≤ y ∧ y ≤ 65535) (w : World) :
    Calls Tryd.prog 37 #[.agg #[.bool t, .int .u32 b, .int .u32 p, .int .u32 a, .int .u16 m, .int .u16 y]] w (PutP w (putL b p a m y)) := by
  obtain ⟨i0, hi0, hz0, hz1, hz2⟩ := info_parts infoU8
  go_enter Tryd.func37, Tryd.ntmps37
  go_wp2_with fail
  go_region_held3 (fun w' => w'.cell? ⟨w.heap.size, 1, none⟩ = some (.int .u32 b) ∧ w'.cell? ⟨w.heap.size, 2, none⟩ = some (.int .u32 p))
    (first | go_keep | (go_split_ands; refine ⟨?_, ?_⟩ <;> (rw [hgrow.cell_far _ (by simp; omega) (by simp [Value.ownBlock])]; go_keep)))
    (first
      | (go_at_call 52; refine (rword_any _ ?_ _).mono ?_; (· omega); rintro e w' ⟨rfl, rfl⟩)
      | (refine step_append_lies _ (by rfl) _ _ _ (by rfl) w.heap.size 5 i0 _ 1 1 Tryd.underlying35 hi0 hz0 hz1 hz2 rfl (by decide) (.slice (some ⟨w.heap.size + 1, 0, none⟩) 4 4) 4 ((b4 b).map (Value.int .u8)) (by rfl) (((owns_new1 w _ (b4 b) 4 (by rfl) (by decide)).alloc _).drew) ⟨w.heap.size + 1 + 1, 0, none⟩ 4 4 ((b4 p).map (Value.int .u8)) (by rfl) (by rfl) (World.news_of_block (cs := u8s (b4 p)) (t := 5) (fr := (0, 0)) (heap_new2 w _ _ _)) (u8s_one _) (by decide) (by unfold maxLen; decide) (by decide) (by simp; omega) (w.heap.size + 1 + 1 + 1) (by simp) ?_; intro g cap w1 hown hgrow hat hlt))
  have B0 : Box w1 w.heap.size #[.bool t, .int .u32 b, .int .u32 p, .int .u32 a, .int .u16 m, .int .u16 y] := grown_box hgrow (((Box.new _ _ _).alloc _).alloc _).drew (by simp [Value.ownBlock])
  have K1 : Keep w w1 := grown_keep (((((Keep.refl _).alloc _).alloc _).alloc _).drew) hgrow (by simp [Value.ownBlock])
  have hg0 : w.heap.size < g := by simp [Value.ownBlock] at hat; omega
  have hs1 := K1.size
  have l0 := B0.lt
  clear hgrow hat
  rw [← List.map_append] at hown
  have c0 := B0.cells
  go_wp2_with fail
  refine (rword_any _ ha _).mono ?_
  rintro e w' ⟨rfl, rfl⟩
  obtain ⟨m0, m1⟩ := hm
  obtain ⟨y0, y1⟩ := hy
  go_wp2_with (first
    | (at_builtin; refine wpList_append_lies _ (by rfl) (.tmp 11) (.tmp 14) _ (by rfl) w.heap.size 5 i0 _ 1 1 Tryd.underlying35 hi0 hz0 hz1 hz2 rfl (by decide) (.slice (some ⟨g, 0, none⟩) 8 cap) 8 _ (by rfl) (hown.alloc _) ⟨w1.heap.size, 0, none⟩ 4 4 ((b4 a).map (Value.int .u8)) (by rfl) (by rfl) (World.news_of_block (cs := u8s (b4 a)) (t := 5) (fr := (0, 0)) (heap_alloc_new w1 _)) (by exact u8s_one _) (by decide) (by unfold maxLen; decide) (by decide) (by simp; omega) (w1.heap.size + 1) (by simp) ?_; intro g2 cap2 w2 hown2 hgrow2 hat2 hlt2; have B1 := grown_box hgrow2 (B0.alloc _) (by simp [Value.ownBlock]; omega); have c1 := B1.cells; have K2 := grown_keep (K1.alloc _) hgrow2 (by simp [Value.ownBlock]; omega); have hs2 := K2.size)
    | (at_builtin; refine wpList_append_lies _ (by rfl) (.tmp 16) (.tmp 31) _ (by rfl) w.heap.size 5 i0 _ 1 1 Tryd.underlying35 hi0 hz0 hz1 hz2 rfl (by decide) (.slice (some ⟨g2, 0, none⟩) 12 cap2) 12 _ (by rfl) (hown2.alloc _) ⟨w2.heap.size, 0, none⟩ 4 4 [.int .u8 (m % 256), .int .u8 (m / 256), .int .u8 (y % 256), .int .u8 (y / 256)] (by rfl) (by rfl) (World.news_of_block (cs := #[.int .u8 (m % 256), .int .u8 (m / 256), .int .u8 (y % 256), .int .u8 (y / 256)]) (t := 5) (fr := (0, 0)) (heap_alloc_new w2 _)) (by simp [Value.oneCell']) (by decide) (by unfold maxLen; decide) (by decide) (by simp; omega) (w2.heap.size + 1) (by simp) ?_; intro g3 cap3 w3 hown3 hgrow3 hat3 hlt3; have K3 := grown_keep (K2.alloc _) hgrow3 (by simp [Value.ownBlock] at hat2 ⊢; omega)))
  go_ret
  refine ⟨g3, cap3, rfl, ?_, K3⟩
  have em : m / 256 % 256 = m / 256 := by omega
  have ey : y / 256 % 256 = y / 256 := by omega
  have e : (putL b p a m y).map (Value.int .u8) = (b4 b ++ b4 p).map (Value.int .u8) ++ (b4 a).map (Value.int .u8) ++ [.int .u8 (m % 256), .int .u8 (m / 256), .int .u8 (y % 256), .int .u8 (y / 256)] := by
    simp only [putL, b2, em, ey, List.map_append, List.append_assoc, List.map_cons, List.map_nil]
    rfl
  rw [e]
  exact hown3
end Go.Proofs.YtnnelghngekbpaaDoor
