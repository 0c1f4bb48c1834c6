/- The program's span, and what checkSpans asks of each. -/
import Derived.Test.YtmcbeclkocjlkaaDoorGIpD
namespace Go.Proofs.YtmcbeclkocjlkaaDoor
set_option linter.unusedVariables false
set_option linter.unusedSimpArgs false
open Go Go.RowKit
def SpanCells (w : World) (p : Option Addr) (l : List SpanV) : Prop := l = [] ∨ ∃ b off, p = some ⟨b, off, none⟩ ∧ b < w.heap.size ∧ ∀ (j : Nat) (s : SpanV), l[j]? = some s → w.cell? ⟨b, off + j * 2, none⟩ = some (.int .u32 s.at_) ∧ w.cell? ⟨b, off + j * 2 + 1, none⟩ = some (.int .u32 s.size)
theorem SpanCells.keep {w w' : World} {p : Option Addr} {l : List SpanV} (h : SpanCells w p l) (k : Keep w w') : SpanCells w' p l := by
  rcases h with h | ⟨b, off, h1, h2, h3⟩
  · exact .inl h
  · exact .inr ⟨b, off, h1, Nat.lt_of_lt_of_le h2 k.size, fun j s hs => ⟨k.cellOf (h3 j s hs).1, k.cellOf (h3 j s hs).2⟩⟩
theorem SpanCells.free {w : World} {p : Option Addr} {l : List SpanV} (h : SpanCells w p l) : l = [] ∨ ∃ b off, p = some ⟨b, off, none⟩ ∧ ∀ (j : Nat) (s : SpanV), l[j]? = some s → w.cell? ⟨b, off + j * 2, none⟩ = some (.int .u32 s.at_) ∧ w.cell? ⟨b, off + j * 2 + 1, none⟩ = some (.int .u32 s.size) := by
  rcases h with h | ⟨b, off, h1, _, h3⟩
  · exact .inl h
  · exact .inr ⟨b, off, h1, h3⟩
def spE (room s : SpanV) (ahead : List SpanV) : Int :=
  if s.at_ % 16 ≠ 0 ∨ s.size % 16 ≠ 0 then 5 else if withinS room s.at_ s.size = false then 6 else if (ahead.any fun t => meetS t s) = true then 13 else 0
theorem spE_i {i : ImgV} {k : Nat} {s : SpanV} (h : (spansI i)[k]? = some s) (h16 : 16 ≤ i.size) : spE ⟨16, i.size - 16⟩ s ((spansI i).take k) = spanE i k := by
  unfold spE spanE
  rw [h]
  dsimp only
  have e : (withinS ⟨16, i.size - 16⟩ s.at_ s.size = false) ↔ (s.at_ < 16 ∨ i.size < s.at_ + s.size) := by
    unfold withinS
    rw [Bool.and_eq_false_iff, decide_eq_false_iff_not, decide_eq_false_iff_not]
    show (¬ (16 : Int) ≤ s.at_ ∨ ¬ s.at_ + s.size ≤ 16 + (i.size - 16)) ↔ _
    omega
  by_cases h2 : withinS ⟨16, i.size - 16⟩ s.at_ s.size = false
  · rw [if_pos h2, if_pos (e.1 h2)]
  · rw [if_neg h2, if_neg (fun x => h2 (e.2 x))]
set_option maxHeartbeats 4000000 in
set_option maxRecDepth 100000 in
theorem ispanC_any (a s : SpanV) (ha : SpanOk a) (hs : SpanOk s) (b : Nat) (w : World) (hB : Box w b #[.int .u32 s.at_, .int .u32 s.size]) :
    Calls Tryd.prog 59 #[.agg #[.int .u32 a.at_, .int .u32 a.size], .pointer (some ⟨b, 0, none⟩)] w fun e w' => e = .returned (.bool (meetS a s)) ∧ Keep w w' := by
  have C := Lib.hid (fun W => ipmeet_any a s ha hs W)
  have cs := (hB.alloc (.cells #[.int .u32 a.at_, .int .u32 a.size] 36)).cells
  clear ha hs hB
  go_enter Tryd.func59, Tryd.ntmps59
  go_wp2_with fail
  with_reducible refine (C.out _).mono ?_
  rintro e w1 ⟨rfl, hk⟩
  have HK := Lib.hid (((Keep.refl w).alloc (.cells #[.int .u32 a.at_, .int .u32 a.size] 36)).trans hk)
  clear hk C cs
  go_wp2_with fail
  go_ret
  exact ⟨rfl, HK.out⟩
set_option maxHeartbeats 4000000 in
set_option maxRecDepth 100000 in
theorem ipspan_any (s room : SpanV) (hs : SpanOk s) (hr : SpanOk room) (l : List SpanV) (p : Option Addr) (cap : Nat) (hcap : l.length ≤ cap) (hok : ∀ t ∈ l, SpanOk t) (k : Nat) (hk : k ≤ l.length) (few : l.length ≤ 1000000) (w : World) (hl : SpanCells w p l) :
    Calls Tryd.prog 34 #[.agg #[.int .u32 s.at_, .int .u32 s.size], .slice p k cap, .agg #[.int .u32 room.at_, .int .u32 room.size]] w fun e w' => e = .returned (.int .i64 (spE room s (l.take k))) ∧ Keep w w' := by
  obtain ⟨W0, hW0⟩ : ∃ W0, W0 = (w.alloc (.cells #[.int .u32 s.at_, .int .u32 s.size] 36)).alloc (.cells #[.int .u32 room.at_, .int .u32 room.size] 36) := ⟨_, rfl⟩
  have K0 : Hid (Keep w W0) := Lib.hid (by rw [hW0]; exact ((Keep.refl _).alloc _).alloc _)
  have BS : Hid (Box W0 w.heap.size #[.int .u32 s.at_, .int .u32 s.size]) := Lib.hid (by rw [hW0]; exact (Box.new _ _ _).alloc _)
  have BR : Hid (Box W0 (w.heap.size + 1) #[.int .u32 room.at_, .int .u32 room.size]) := Lib.hid (by rw [hW0]; exact Box.new1 _ _ _ _)
  have CH := Lib.hid (fun W => iholds_any room s.at_ s.size hr hs.1 hs.2 W)
  have CC := Lib.hid (fun W (kw : Keep W0 W) => icontS_any l p cap W hcap (hl.keep (K0.out.trans kw)).free k hk few 59 (.pointer (some ⟨w.heap.size, 0, none⟩)) (fun t => meetS t s) (enters_of Tryd.func59 (by kernel_rfl) rfl) (fun t ht W' kw' => ispanC_any t s (hok t ht) hs w.heap.size W' ((BS.out.keep kw).keep kw')))
  obtain ⟨hd, hhd⟩ : ∃ hd, withinS room s.at_ s.size = hd := ⟨_, rfl⟩
  obtain ⟨tw, htw⟩ : ∃ tw, ((l.take k).any fun t => meetS t s) = tw := ⟨_, rfl⟩
  unfold spE
  rw [hhd] at CH ⊢
  rw [htw] at CC ⊢
  have b0 := BS.out.cells
  have b1 := BR.out.cells
  have s0 := hs.1.1; have s1 := hs.2.1
  have lt := BR.out.lt
  clear hs hr hok hl hhd htw
  by_cases h1 : s.at_ % 16 = 0
  rotate_left
  · have d1 : (s.at_ % 16 != 0) = true := by simpa using h1
    rw [if_pos (.inl h1)]
    clear lt h1 b1
    go_enter Tryd.func34, Tryd.ntmps34
    go_wp2_with fail
    go_ret
    exact ⟨rfl, by first | exact K0.out | (rw [← hW0]; exact K0.out)⟩
  have d1 : (s.at_ % 16 != 0) = false := by simpa using h1
  by_cases h2 : s.size % 16 = 0
  rotate_left
  · have d2 : (s.size % 16 != 0) = true := by simpa using h2
    rw [if_pos (.inr h2)]
    clear lt h1 h2 b1
    go_enter Tryd.func34, Tryd.ntmps34
    go_wp2_with fail
    go_ret
    exact ⟨rfl, by first | exact K0.out | (rw [← hW0]; exact K0.out)⟩
  have d2 : (s.size % 16 != 0) = false := by simpa using h2
  rw [if_neg (by intro e; rcases e with e | e; exact e h1; exact e h2)]
  clear h1 h2 lt
  go_enter Tryd.func34, Tryd.ntmps34
  clear b0 b1
  go_wp2_with fail
  rw [← hW0]
  clear hW0
  with_reducible refine (CH.out _).mono ?_
  rintro e w1 ⟨rfl, hk1⟩
  have HK1 := Lib.hid hk1
  clear hk1 CH
  cases hd with
  | false =>
    go_wp2_with fail
    go_ret
    exact ⟨rfl, K0.out.trans HK1.out⟩
  | true =>
    go_wp2_with fail
    with_reducible refine (CC.out _ HK1.out).mono ?_
    rintro e w2 ⟨rfl, hk2⟩
    have HK2 := Lib.hid (HK1.out.trans hk2)
    clear hk2 CC
    cases tw with
    | true =>
      go_wp2_with fail
      go_ret
      exact ⟨rfl, K0.out.trans HK2.out⟩
    | false =>
      go_wp2_with fail
      go_ret
      exact ⟨rfl, K0.out.trans HK2.out⟩
set_option maxHeartbeats 4000000 in
set_option maxRecDepth 100000 in
theorem icloS_any (l : List SpanV) (room : SpanV) (p : Option Addr) (cap : Nat) (bA bR : Nat) (hr : SpanOk room) (hcap : l.length ≤ cap) (hm : cap ≤ maxLen) (hok : ∀ t ∈ l, SpanOk t) (k : Nat) (s : SpanV) (hs : l[k]? = some s) (few : l.length ≤ 1000000) (w : World) (hA : Box w bA #[.slice p l.length cap]) (hR : Box w bR #[.int .u32 room.at_, .int .u32 room.size]) (hl : SpanCells w p l) :
    Calls Tryd.prog 33 #[.int .i64 (k : Int), .pointer (some ⟨bA, 0, none⟩), .pointer (some ⟨bR, 0, none⟩)] w fun e w' => e = .returned (.int .i64 (spE room s (l.take k))) ∧ Keep w w' := by
  have hk := (List.getElem?_eq_some_iff.1 hs).1
  have C := Lib.hid (fun W (kw : Keep w W) => ipspan_any s room (hok s (List.mem_of_getElem? hs)) hr l p cap hcap hok k (by omega) few W (hl.keep kw))
  have hki : (k : Int) < (l.length : Int) := by omega
  have k0 : (0 : Int) ≤ (k : Int) := Int.natCast_nonneg _
  have hkc : (k : Int) ≤ (cap : Int) := by omega
  obtain ⟨b, off, hp, hcl⟩ : ∃ b off, p = some ⟨b, off, none⟩ ∧ ∀ (j : Nat) (s : SpanV), l[j]? = some s → w.cell? ⟨b, off + j * 2, none⟩ = some (.int .u32 s.at_) ∧ w.cell? ⟨b, off + j * 2 + 1, none⟩ = some (.int .u32 s.size) := by
    rcases hl.free with e | e
    · rw [e] at hk; simp at hk
    · exact e
  have H0 := Lib.hid (hcl k s hs)
  have HA := Lib.hid hA
  have HR := Lib.hid hR
  subst hp
  clear hcl hs hok hr hl hA hR
  go_enter Tryd.func33, Tryd.ntmps33
  go_wp2_with fail
  refine region_grows (Keep w) (by kernel_rfl) (by kernel_rfl) (Keep.refl _).drew ?_
  repeat (first
    | (apply text_pass (by rfl); go_simp)
    | (apply text_step (by rfl)
       · intro W hW
         have c0 := hW.cellOf H0.out.1
         have c1 := hW.cellOf H0.out.2
         have cA := (HA.out.keep hW).cells
         have cR := (HR.out.keep hW).cells
         go_simp
         first
           | (apply yes_enter; go_at_call 34; with_reducible refine (C.out _ hW).mono ?_; rintro e w' ⟨rfl, hk⟩; exact ⟨rfl, hW.trans hk⟩)
           | exact ⟨rfl, hW⟩
       go_simp))
  apply text_end
  intro W hW
  have HW := Lib.hid hW
  clear hW
  go_wp2_with fail
  go_ret
  exact ⟨rfl, HW.out⟩
end Go.Proofs.YtmcbeclkocjlkaaDoor
