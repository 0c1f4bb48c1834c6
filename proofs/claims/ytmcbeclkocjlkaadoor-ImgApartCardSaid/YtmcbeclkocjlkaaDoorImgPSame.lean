/- The program's Same. -/
import Derived.Test.YtmcbeclkocjlkaaDoorImgPSp2
import Derived.Test.YtmcbeclkocjlkaaDoorImgSameC
namespace Go.Proofs.YtmcbeclkocjlkaaDoor
set_option linter.unusedVariables false
set_option linter.unusedSimpArgs false
open Go Go.RowKit
theorem ImgV.same_iff (i j : ImgV) : i = j ↔ i.size = j.size ∧ i.start = j.start ∧ i.addr = j.addr ∧ i.parts = j.parts ∧ i.shares = j.shares ∧ i.inits = j.inits ∧ i.bytes = j.bytes := by
  obtain ⟨a, b, c, d, e, f, g⟩ := i
  obtain ⟨a1, b1, c1, d1, e1, f1, g1⟩ := j
  simp only [ImgV.mk.injEq]
  constructor
  · rintro ⟨h1, h2, h3, h4, h5, h6, h7⟩; exact ⟨h1, h5, h6, h2, h3, h4, h7⟩
  · rintro ⟨h1, h2, h3, h4, h5, h6, h7⟩; exact ⟨h1, h4, h5, h6, h2, h3, h7⟩
set_option maxHeartbeats 4000000 in
set_option maxRecDepth 100000 in
theorem iSame_aux (i j : ImgV) (vp vs vi vb up us ui ub : Value) (ves ues : List Value) (w : World) (h : ImgAt w i vp vs vi vb ves) (h2 : ImgAt w j up us ui ub ues) (f : ImgMid i) (f2 : ImgMid j) :
    Calls Tryd.prog 9 #[imgVal i vp vs vi vb, imgVal j up us ui ub] w (EqR i j w) := by
  have HP := Lib.hid (fun W (k : Keep w W) => ieqParts_any i j vp vs vi vb up us ui ub ves ues W (h.keep k) (h2.keep k) f f2)
  have HS := Lib.hid (fun W (k : Keep w W) => ipeq_S i.shares j.shares vs us W (h.shares.keep k) (h2.shares.keep k) (by have := f.shares; omega) (by have := f2.shares; omega))
  have HI := Lib.hid (fun W (k : Keep w W) => ipeq_I i.inits j.inits vi ui W (h.inits.keep k) (h2.inits.keep k) (by have := f.inits; omega) (by have := f2.inits; omega))
  have HB := Lib.hid (fun W (k : Keep w W) => ipeq_B i.bytes j.bytes vb ub W (by rw [← map_row]; exact h.bytes.keep k) (by rw [← map_row]; exact h2.bytes.keep k) (by have := f.bytes; omega) (by have := f2.bytes; omega))
  obtain ⟨p1, pc1, rfl, _⟩ := h.parts
  obtain ⟨s1, sc1, rfl, _⟩ := h.shares
  obtain ⟨x1, xc1, rfl, _⟩ := h.inits
  obtain ⟨b1, bc1, rfl, _⟩ := h.bytes
  obtain ⟨p2, pc2, rfl, _⟩ := h2.parts
  obtain ⟨s2, sc2, rfl, _⟩ := h2.shares
  obtain ⟨x2, xc2, rfl, _⟩ := h2.inits
  obtain ⟨b2, bc2, rfl, _⟩ := h2.bytes
  unfold imgVal
  clear h h2 f f2
  obtain ⟨W1, hW1⟩ : ∃ W1, W1 = (w.alloc (.cells #[.int .u32 i.size, .slice p1 i.parts.length pc1, .slice s1 i.shares.length sc1, .slice x1 i.inits.length xc1, .int .i64 i.start, .int .u32 i.addr, .slice b1 i.bytes.length bc1] 28)).alloc (.cells #[.int .u32 j.size, .slice p2 j.parts.length pc2, .slice s2 j.shares.length sc2, .slice x2 j.inits.length xc2, .int .i64 j.start, .int .u32 j.addr, .slice b2 j.bytes.length bc2] 28) := ⟨_, rfl⟩
  have K1 : Hid (Keep w W1) := Lib.hid (by rw [hW1]; exact ((Keep.refl _).alloc _).alloc _)
  have BA : Hid (Box W1 w.heap.size #[.int .u32 i.size, .slice p1 i.parts.length pc1, .slice s1 i.shares.length sc1, .slice x1 i.inits.length xc1, .int .i64 i.start, .int .u32 i.addr, .slice b1 i.bytes.length bc1]) := Lib.hid (by rw [hW1]; exact (Box.new _ _ _).alloc _)
  have BB : Hid (Box W1 (w.heap.size + 1) #[.int .u32 j.size, .slice p2 j.parts.length pc2, .slice s2 j.shares.length sc2, .slice x2 j.inits.length xc2, .int .i64 j.start, .int .u32 j.addr, .slice b2 j.bytes.length bc2]) := Lib.hid (by rw [hW1]; exact Box.new1 _ _ _ _)
  rcases Bool.eq_false_or_eq_true (i.size == j.size) with d0 | d0
  rotate_left
  · have hne : Hid (i ≠ j) := Lib.hid (fun e => by rw [e] at d0; simp at d0)
    clear HP HS HI HB BA BB
    go_enter Tryd.func9, Tryd.ntmps9
    go_wp2_with fail
    go_ret
    exact EqR.no hne.out (((Keep.refl _).alloc _).alloc _)
  have N0 : Hid (i.size = j.size) := Lib.hid (by simpa using d0)
  rcases Bool.eq_false_or_eq_true (i.start == j.start) with d1 | d1
  rotate_left
  · have hne : Hid (i ≠ j) := Lib.hid (fun e => by rw [e] at d1; simp at d1)
    clear HP HS HI HB BA BB
    go_enter Tryd.func9, Tryd.ntmps9
    go_wp2_with fail
    go_ret
    exact EqR.no hne.out (((Keep.refl _).alloc _).alloc _)
  have N1 : Hid (i.start = j.start) := Lib.hid (by simpa using d1)
  rcases Bool.eq_false_or_eq_true (i.addr == j.addr) with d2 | d2
  rotate_left
  · have hne : Hid (i ≠ j) := Lib.hid (fun e => by rw [e] at d2; simp at d2)
    clear HP HS HI HB BA BB
    go_enter Tryd.func9, Tryd.ntmps9
    go_wp2_with fail
    go_ret
    exact EqR.no hne.out (((Keep.refl _).alloc _).alloc _)
  have N2 : Hid (i.addr = j.addr) := Lib.hid (by simpa using d2)
  go_enter Tryd.func9, Tryd.ntmps9
  go_wp2_with fail
  rw [← hW1]
  clear hW1
  refine (HP.out _ K1.out).mono ?_
  rintro e w2 ⟨y2, rfl, hb, hk⟩
  have K2 := Lib.hid (K1.out.trans hk)
  have Y2 := Lib.hid hb
  have BA2 := Lib.hid (BA.out.keep hk)
  have BB2 := Lib.hid (BB.out.keep hk)
  clear hk hb 
  have c0 := BA2.out.cells
  have c1 := BB2.out.cells
  cases y2
  · go_wp2_with fail
    go_ret
    exact EqR.no (fun e => by have h := Y2.out.2 (congrArg ImgV.parts e); cases h) K2.out
  go_wp2_with fail
  refine (HS.out _ K2.out).mono ?_
  rintro e w3 ⟨y3, rfl, hb, hk⟩
  have K3 := Lib.hid (K2.out.trans hk)
  have Y3 := Lib.hid hb
  have BA3 := Lib.hid (BA2.out.keep hk)
  have BB3 := Lib.hid (BB2.out.keep hk)
  clear hk hb c0 c1
  have c0 := BA3.out.cells
  have c1 := BB3.out.cells
  cases y3
  · go_wp2_with fail
    go_ret
    exact EqR.no (fun e => by have h := Y3.out.2 (congrArg ImgV.shares e); cases h) K3.out
  go_wp2_with fail
  refine (HI.out _ K3.out).mono ?_
  rintro e w4 ⟨y4, rfl, hb, hk⟩
  have K4 := Lib.hid (K3.out.trans hk)
  have Y4 := Lib.hid hb
  have BA4 := Lib.hid (BA3.out.keep hk)
  have BB4 := Lib.hid (BB3.out.keep hk)
  clear hk hb c0 c1
  have c0 := BA4.out.cells
  have c1 := BB4.out.cells
  cases y4
  · go_wp2_with fail
    go_ret
    exact EqR.no (fun e => by have h := Y4.out.2 (congrArg ImgV.inits e); cases h) K4.out
  go_wp2_with fail
  refine (HB.out _ K4.out).mono ?_
  rintro e w5 ⟨y5, rfl, hb, hk⟩
  have K5 := Lib.hid (K4.out.trans hk)
  have Y5 := Lib.hid hb
  have BA5 := Lib.hid (BA4.out.keep hk)
  have BB5 := Lib.hid (BB4.out.keep hk)
  clear hk hb c0 c1
  have c0 := BA5.out.cells
  have c1 := BB5.out.cells
  cases y5
  · go_wp2_with fail
    go_ret
    exact EqR.no (fun e => by have h := Y5.out.2 (congrArg ImgV.bytes e); cases h) K5.out
  go_wp2_with fail
  go_ret
  exact EqR.yes ((ImgV.same_iff i j).2 ⟨N0.out, N1.out, N2.out, Y2.out.1 (by trivial), Y3.out.1 (by trivial), Y4.out.1 (by trivial), Y5.out.1 (by trivial)⟩) K5.out
theorem iSame : PImgSame := fun i j vp vs vi vb up us ui ub ves ues w h h2 _ _ f f2 => (iSame_aux i j vp vs vi vb up us ui ub ves ues w h h2 f f2).mono fun _ _ ⟨b, h1, h3, h4⟩ => ⟨b, h1, h3, h4⟩
end Go.Proofs.YtmcbeclkocjlkaaDoor
