/- The program's checkSize, checkBytes, checkCounts, checkInits, checkStart. -/
import Derived.Test.YtmcbeclkocjlkaaDoorImgPIi
import Derived.Test.YtmcbeclkocjlkaaDoorGIpD
namespace Go.Proofs.YtmcbeclkocjlkaaDoor
set_option linter.unusedVariables false
set_option linter.unusedSimpArgs false
open Go Go.RowKit
def orI (a b : WrV) : WrV := if a.2.2 = 0 then b else a
theorem orI_zero {a b : WrV} (h : a.2.2 = 0) : orI a b = b := if_pos h
theorem orI_not {a b : WrV} (h : a.2.2 ≠ 0) : orI a b = a := if_neg h
def sizeE (i : ImgV) : Int := if i.size < 16 ∨ 65536 < i.size then 6 else if i.size % 16 ≠ 0 then 5 else 0
def sizeW (i : ImgV) : WrV := errW sizeT i.size (sizeE i)
def bytW (i : ImgV) : WrV := if (i.bytes.length : Int) > i.size then (bytesT, i.bytes.length, 6) else okW
def cntW (i : ImgV) : WrV := if i.parts.length = 0 then (partsT, 0, 16) else if i.parts.length > 8 then (partsT, i.parts.length, 15) else if i.shares.length > 8 then (sharesT, i.shares.length, 15) else okW
def spnW (i : ImgV) : WrV := fstW spanT (spansI i).length (spanE i)
def prtW (i : ImgV) : WrV := fstW partT i.parts.length (partE i)
def entW (i : ImgV) : WrV := fstW entryT (entsI i).length (entE i)
def iniW (i : ImgV) : WrV := if i.inits.length > 512 then (initsT, i.inits.length, 15) else fstW initT i.inits.length (initE i)
def staW (i : ImgV) : WrV := errW startT i.start (callE i i.start i.addr)
theorem orI_fst (t : ByteArray) (n : Nat) (f : Nat → Int) (rest : WrV) : orI (fstW t n f) rest = match firstE f n 0 with
    | some (k, e) => (t, k, e)
    | none => rest := by
  unfold orI fstW
  cases h : firstE f n 0 with
  | none => rfl
  | some x => exact if_neg (first_some _ _ _ _ h)
theorem fstW_ok {t : ByteArray} {n : Nat} {f : Nat → Int} (h : (fstW t n f).2.2 = 0) : firstE f n 0 = none := by
  unfold fstW at h
  cases hf : firstE f n 0 with
  | none => rfl
  | some x => rw [hf] at h; exact absurd h (first_some _ _ _ _ hf)
theorem sizeW_ok {i : ImgV} (h : (sizeW i).2.2 = 0) : 16 ≤ i.size := by
  unfold sizeW errW sizeE at h
  by_cases h1 : i.size < 16 ∨ 65536 < i.size
  · rw [if_pos h1, if_neg (by decide)] at h; exact absurd h (show ¬ (6 : Int) = 0 by decide)
  · omega
theorem staW_ok {i : ImgV} (h : (staW i).2.2 = 0) : staW i = okW := by
  unfold staW at h ⊢
  unfold errW at h ⊢
  by_cases h1 : callE i i.start i.addr = 0
  · rw [if_pos h1]
  · rw [if_neg h1] at h; exact absurd h h1
/-- The first of them. -/
theorem imgW_parts (i : ImgV) : imgW i = orI (sizeW i) (orI (bytW i) (orI (cntW i) (orI (spnW i) (orI (prtW i) (orI (entW i) (orI (iniW i) (staW i))))))) := by
  have e7 : ∀ rest, orI (iniW i) rest = if i.inits.length > 512 then (initsT, (i.inits.length : Int), (15 : Int)) else match firstE (initE i) i.inits.length 0 with
      | some (k, e) => (initT, k, e)
      | none => rest := fun rest => by
    unfold iniW
    by_cases h : i.inits.length > 512
    · rw [if_pos h, if_pos h]; exact orI_not (show (15 : Int) ≠ 0 by decide)
    · rw [if_neg h, if_neg h]; exact orI_fst _ _ _ _
  have e8 : staW i = if i.start < 0 ∨ (i.parts.length : Int) ≤ i.start then (startT, i.start, 6) else if (match i.parts[i.start.toNat]? with
      | none => false
      | some p => amongI p.entries i.addr) = false then (startT, i.start, 12) else okW := by
    unfold staW errW callE
    by_cases h1 : i.start < 0 ∨ (i.parts.length : Int) ≤ i.start
    · rw [if_pos h1, if_pos h1]; rfl
    · rw [if_neg h1, if_neg h1]
      cases i.parts[i.start.toNat]? with
      | none => rfl
      | some p =>
        dsimp only
        by_cases q : amongI p.entries i.addr = false
        · rw [if_pos q, if_pos q]; rfl
        · rw [if_neg q, if_neg q]; rfl
  unfold spnW prtW entW
  rw [e7, orI_fst, orI_fst, orI_fst, e8]
  unfold orI sizeW errW sizeE bytW cntW imgW
  by_cases h1 : i.size < 16 ∨ 65536 < i.size
  · rw [if_pos h1, if_pos h1]; rfl
  rw [if_neg h1, if_neg h1]
  by_cases h2 : i.size % 16 ≠ 0
  · rw [if_pos h2, if_pos h2]; rfl
  rw [if_neg h2, if_neg h2]
  by_cases h3 : (i.bytes.length : Int) > i.size
  · rw [if_pos h3, if_pos h3]; rfl
  rw [if_neg h3, if_neg h3]
  by_cases h4 : i.parts.length = 0
  · rw [if_pos h4, if_pos h4]; rfl
  rw [if_neg h4, if_neg h4]
  by_cases h5 : i.parts.length > 8
  · rw [if_pos h5, if_pos h5]; rfl
  rw [if_neg h5, if_neg h5]
  by_cases h6 : i.shares.length > 8
  · rw [if_pos h6, if_pos h6]; rfl
  rw [if_neg h6, if_neg h6]
  rfl
set_option maxHeartbeats 4000000 in
set_option maxRecDepth 100000 in
theorem icheckSize_any (i : ImgV) (vp vs vi vb : Value) (w : World) (hn : ImgNum i) :
    Calls Tryd.prog 11 #[imgVal i vp vs vi vb] w (IChk w (sizeW i)) := by
  have s0 := hn.size.1
  have s1 := hn.size.2
  have wz : IntKind.i64.wrap i.size = i.size := by rw [IntKind.wrap_i64]; omega
  unfold imgVal sizeW
  obtain ⟨W0, hW0⟩ : ∃ W0, W0 = w.alloc (.cells #[.int .u32 i.size, vp, vs, vi, .int .i64 i.start, .int .u32 i.addr, vb] 28) := ⟨_, rfl⟩
  have K0 : Hid (Keep w W0) := Lib.hid (by rw [hW0]; exact (Keep.refl _).alloc _)
  have B0 : Hid (Box W0 w.heap.size #[.int .u32 i.size, vp, vs, vi, .int .i64 i.start, .int .u32 i.addr, vb]) := Lib.hid (by rw [hW0]; exact Box.new _ _ _)
  obtain ⟨r, hr⟩ : ∃ r, r = sizeE i := ⟨_, rfl⟩
  rw [← hr]
  unfold sizeE at hr
  have CF := Lib.hid (fun W => ifault_chk sizeT i.size r W)
  clear hn B0
  have fin : ∀ (e : Ending) (w1 : World), IChk W0 (errW sizeT i.size r) e w1 → IChk w (errW sizeT i.size r) e w1 := fun e w1 ⟨u, h1, h2, h3⟩ => ⟨u, h1, h2, K0.out.trans h3⟩
  have FIN := Lib.hid fin
  clear fin
  by_cases h1 : i.size < 16
  · obtain rfl : r = 6 := hr.trans (if_pos (.inl h1))
    have d1 : decide (i.size < 16) = true := decide_eq_true h1
    clear hr h1
    go_enter Tryd.func11, Tryd.ntmps11
    go_wp2_with fail
    rw [← hW0]
    clear hW0
    refine (CF.out _).mono ?_
    rintro e w1 h
    obtain ⟨u, rfl, hu, hk⟩ := FIN.out _ _ h
    have HU := Lib.hid hu
    have HK := Lib.hid hk
    clear h hu hk CF FIN
    go_wp2_with fail
    go_ret
    exact ⟨u, rfl, HU.out, HK.out⟩
  have d1 : decide (i.size < 16) = false := decide_eq_false h1
  by_cases h2 : 65536 < i.size
  · obtain rfl : r = 6 := hr.trans (if_pos (.inr h2))
    have d2 : decide (65536 < i.size) = true := decide_eq_true h2
    clear hr h1 h2
    go_enter Tryd.func11, Tryd.ntmps11
    go_wp2_with fail
    rw [← hW0]
    clear hW0
    refine (CF.out _).mono ?_
    rintro e w1 h
    obtain ⟨u, rfl, hu, hk⟩ := FIN.out _ _ h
    have HU := Lib.hid hu
    have HK := Lib.hid hk
    clear h hu hk CF FIN
    go_wp2_with fail
    go_ret
    exact ⟨u, rfl, HU.out, HK.out⟩
  have d2 : decide (65536 < i.size) = false := decide_eq_false h2
  have hr2 := hr.trans (if_neg (by omega))
  by_cases h3 : i.size % 16 = 0
  · obtain rfl : r = 0 := hr2.trans (if_neg (by simpa using h3))
    have d3 : (i.size % 16 != 0) = false := by simpa using h3
    clear hr hr2 h1 h2 h3
    go_enter Tryd.func11, Tryd.ntmps11
    go_wp2_with fail
    rw [← hW0]
    clear hW0
    refine (CF.out _).mono ?_
    rintro e w1 h
    obtain ⟨u, rfl, hu, hk⟩ := FIN.out _ _ h
    have HU := Lib.hid hu
    have HK := Lib.hid hk
    clear h hu hk CF FIN
    go_wp2_with fail
    go_ret
    exact ⟨u, rfl, HU.out, HK.out⟩
  · obtain rfl : r = 5 := hr2.trans (if_pos h3)
    have d3 : (i.size % 16 != 0) = true := by simpa using h3
    clear hr hr2 h1 h2 h3
    go_enter Tryd.func11, Tryd.ntmps11
    go_wp2_with fail
    rw [← hW0]
    clear hW0
    refine (CF.out _).mono ?_
    rintro e w1 h
    obtain ⟨u, rfl, hu, hk⟩ := FIN.out _ _ h
    have HU := Lib.hid hu
    have HK := Lib.hid hk
    clear h hu hk CF FIN
    go_wp2_with fail
    go_ret
    exact ⟨u, rfl, HU.out, HK.out⟩
set_option maxHeartbeats 4000000 in
set_option maxRecDepth 100000 in
theorem icheckBytes_any (i : ImgV) (vp vs vi vb : Value) (ves : List Value) (w : World) (h : ImgAt w i vp vs vi vb ves) (hn : ImgNum i) :
    Calls Tryd.prog 12 #[imgVal i vp vs vi vb] w (IChk w (bytW i)) := by
  have s0 := hn.size.1
  have s1 := hn.size.2
  have wz : IntKind.i64.wrap i.size = i.size := by rw [IntKind.wrap_i64]; omega
  obtain ⟨pq, pc, rfl, _⟩ := h.parts
  obtain ⟨sq, sc, rfl, _⟩ := h.shares
  obtain ⟨iq, ic, rfl, _⟩ := h.inits
  obtain ⟨bq, bc, rfl, _⟩ := h.bytes
  unfold imgVal bytW
  obtain ⟨W0, hW0⟩ : ∃ W0, W0 = w.alloc (.cells #[.int .u32 i.size, .slice pq i.parts.length pc, .slice sq i.shares.length sc, .slice iq i.inits.length ic, .int .i64 i.start, .int .u32 i.addr, .slice bq i.bytes.length bc] 28) := ⟨_, rfl⟩
  have K0 : Hid (Keep w W0) := Lib.hid (by rw [hW0]; exact (Keep.refl _).alloc _)
  have B0 : Hid (Box W0 w.heap.size #[.int .u32 i.size, .slice pq i.parts.length pc, .slice sq i.shares.length sc, .slice iq i.inits.length ic, .int .i64 i.start, .int .u32 i.addr, .slice bq i.bytes.length bc]) := Lib.hid (by rw [hW0]; exact Box.new _ _ _)
  clear hn B0 h
  by_cases h1 : (i.bytes.length : Int) > i.size
  · have d1 : decide (i.size < (i.bytes.length : Int)) = true := decide_eq_true h1
    rw [if_pos h1]
    clear h1
    go_enter Tryd.func12, Tryd.ntmps12
    go_wp2_with fail
    rw [← hW0]
    clear hW0
    refine (ifault_not _ _ _ (by decide) _).mono ?_
    rintro e w1 ⟨q, rfl, _, hB, hk⟩
    have HB := Lib.hid hB
    have HK := Lib.hid (K0.out.trans hk)
    clear hB hk
    unfold faultP
    go_wp2_with fail
    go_ret
    exact IChk.bad (by decide) HB.out HK.out
  have d1 : decide (i.size < (i.bytes.length : Int)) = false := decide_eq_false h1
  rw [if_neg h1]
  clear h1
  go_enter Tryd.func12, Tryd.ntmps12
  go_wp2_with fail
  go_ret
  exact IChk.nil (by first | exact K0.out | (rw [← hW0]; exact K0.out))
set_option maxHeartbeats 4000000 in
set_option maxRecDepth 100000 in
theorem icheckCounts_any (i : ImgV) (vp vs vi vb : Value) (ves : List Value) (w : World) (h : ImgAt w i vp vs vi vb ves) :
    Calls Tryd.prog 13 #[imgVal i vp vs vi vb] w (IChk w (cntW i)) := by
  obtain ⟨pq, pc, rfl, _⟩ := h.parts
  obtain ⟨sq, sc, rfl, _⟩ := h.shares
  obtain ⟨iq, ic, rfl, _⟩ := h.inits
  obtain ⟨bq, bc, rfl, _⟩ := h.bytes
  unfold imgVal cntW
  obtain ⟨W0, hW0⟩ : ∃ W0, W0 = w.alloc (.cells #[.int .u32 i.size, .slice pq i.parts.length pc, .slice sq i.shares.length sc, .slice iq i.inits.length ic, .int .i64 i.start, .int .u32 i.addr, .slice bq i.bytes.length bc] 28) := ⟨_, rfl⟩
  have K0 : Hid (Keep w W0) := Lib.hid (by rw [hW0]; exact (Keep.refl _).alloc _)
  have B0 : Hid (Box W0 w.heap.size #[.int .u32 i.size, .slice pq i.parts.length pc, .slice sq i.shares.length sc, .slice iq i.inits.length ic, .int .i64 i.start, .int .u32 i.addr, .slice bq i.bytes.length bc]) := Lib.hid (by rw [hW0]; exact Box.new _ _ _)
  clear B0 h
  by_cases h1 : i.parts.length = 0
  · have d1 : ((i.parts.length : Int) == 0) = true := by simp [h1]
    rw [if_pos h1]
    clear h1
    go_enter Tryd.func13, Tryd.ntmps13
    go_wp2_with fail
    rw [← hW0]
    clear hW0
    refine (ifault_not _ _ _ (by decide) _).mono ?_
    rintro e w1 ⟨q, rfl, _, hB, hk⟩
    have HB := Lib.hid hB
    have HK := Lib.hid (K0.out.trans hk)
    clear hB hk
    unfold faultP
    go_wp2_with fail
    go_ret
    exact IChk.bad (by decide) HB.out HK.out
  have d1 : ((i.parts.length : Int) == 0) = false := beq_eq_false_iff_ne.2 (by omega)
  rw [if_neg h1]
  clear h1
  by_cases h2 : i.parts.length > 8
  · have d2 : decide ((8 : Int) < (i.parts.length : Int)) = true := decide_eq_true (by omega)
    rw [if_pos h2]
    clear h2
    go_enter Tryd.func13, Tryd.ntmps13
    go_wp2_with fail
    rw [← hW0]
    clear hW0
    refine (ifault_not _ _ _ (by decide) _).mono ?_
    rintro e w1 ⟨q, rfl, _, hB, hk⟩
    have HB := Lib.hid hB
    have HK := Lib.hid (K0.out.trans hk)
    clear hB hk
    unfold faultP
    go_wp2_with fail
    go_ret
    exact IChk.bad (by decide) HB.out HK.out
  have d2 : decide ((8 : Int) < (i.parts.length : Int)) = false := decide_eq_false (by omega)
  rw [if_neg h2]
  clear h2
  by_cases h3 : i.shares.length > 8
  · have d3 : decide ((8 : Int) < (i.shares.length : Int)) = true := decide_eq_true (by omega)
    rw [if_pos h3]
    clear h3
    go_enter Tryd.func13, Tryd.ntmps13
    go_wp2_with fail
    rw [← hW0]
    clear hW0
    refine (ifault_not _ _ _ (by decide) _).mono ?_
    rintro e w1 ⟨q, rfl, _, hB, hk⟩
    have HB := Lib.hid hB
    have HK := Lib.hid (K0.out.trans hk)
    clear hB hk
    unfold faultP
    go_wp2_with fail
    go_ret
    exact IChk.bad (by decide) HB.out HK.out
  have d3 : decide ((8 : Int) < (i.shares.length : Int)) = false := decide_eq_false (by omega)
  rw [if_neg h3]
  clear h3
  go_enter Tryd.func13, Tryd.ntmps13
  go_wp2_with fail
  go_ret
  exact IChk.nil (by first | exact K0.out | (rw [← hW0]; exact K0.out))
set_option maxHeartbeats 4000000 in
set_option maxRecDepth 100000 in
theorem icloInits_any (i : ImgV) (vp vs vi vb : Value) (ves : List Value) (b k : Nat) (w : World) (hB : Box w b #[.int .u32 i.size, vp, vs, vi, .int .i64 i.start, .int .u32 i.addr, vb]) (h : ImgAt w i vp vs vi vb ves) (hm : ImgMid i) (hn : ImgNum i) (hk : k < i.inits.length) :
    Calls Tryd.prog 38 #[.int .i64 (k : Int), .pointer (some ⟨b, 0, none⟩)] w fun e w' => e = .returned (.int .i64 (initE i k)) ∧ Keep w w' := by
  have C := Lib.hid (iinitial_any i vp vs vi vb ves k w h hm hn hk)
  unfold imgVal at C
  have c0 := hB.cells
  clear h hm hk hB
  go_enter Tryd.func38, Tryd.ntmps38
  go_wp2_with fail
  refine C.out.mono ?_
  rintro e w1 ⟨rfl, hk⟩
  have HK := Lib.hid hk
  clear hk
  go_wp2_with fail
  go_ret
  exact ⟨rfl, HK.out⟩
set_option maxHeartbeats 4000000 in
set_option maxRecDepth 100000 in
theorem icheckInits_any (i : ImgV) (vp vs vi vb : Value) (ves : List Value) (w : World) (h : ImgAt w i vp vs vi vb ves) (hm : ImgMid i) (hn : ImgNum i) :
    Calls Tryd.prog 17 #[imgVal i vp vs vi vb] w (IChk w (iniW i)) := by
  have HO := Lib.hid h
  have few := hm.inits
  obtain ⟨pq, pc, rfl, _⟩ := h.parts
  obtain ⟨sq, sc, rfl, _⟩ := h.shares
  obtain ⟨iq, ic, rfl, _⟩ := h.inits
  obtain ⟨bq, bc, rfl, _⟩ := h.bytes
  unfold imgVal iniW
  obtain ⟨W0, hW0⟩ : ∃ W0, W0 = w.alloc (.cells #[.int .u32 i.size, .slice pq i.parts.length pc, .slice sq i.shares.length sc, .slice iq i.inits.length ic, .int .i64 i.start, .int .u32 i.addr, .slice bq i.bytes.length bc] 28) := ⟨_, rfl⟩
  have K0 : Hid (Keep w W0) := Lib.hid (by rw [hW0]; exact (Keep.refl _).alloc _)
  have B0 : Hid (Box W0 w.heap.size #[.int .u32 i.size, .slice pq i.parts.length pc, .slice sq i.shares.length sc, .slice iq i.inits.length ic, .int .i64 i.start, .int .u32 i.addr, .slice bq i.bytes.length bc]) := Lib.hid (by rw [hW0]; exact Box.new _ _ _)
  have CL := Lib.hid (ieach1_any initT i.inits.length (by omega) 38 (.pointer (some ⟨w.heap.size, 0, none⟩)) (initE i) W0 (enters_of Tryd.func38 (by kernel_rfl) rfl) (fun k W hk kw => icloInits_any i _ _ _ _ ves w.heap.size k W (B0.out.keep kw) (HO.out.keep (K0.out.trans kw)) hm hn hk))
  clear h hm hn B0
  by_cases h1 : i.inits.length > 512
  · have d1 : decide ((512 : Int) < (i.inits.length : Int)) = true := decide_eq_true (by omega)
    rw [if_pos h1]
    clear h1 CL
    go_enter Tryd.func17, Tryd.ntmps17
    go_wp2_with fail
    rw [← hW0]
    clear hW0
    refine (ifault_not _ _ _ (by decide) _).mono ?_
    rintro e w1 ⟨q, rfl, _, hB, hk⟩
    have HB := Lib.hid hB
    have HK := Lib.hid (K0.out.trans hk)
    clear hB hk
    unfold faultP
    go_wp2_with fail
    go_ret
    exact IChk.bad (by decide) HB.out HK.out
  have d1 : decide ((512 : Int) < (i.inits.length : Int)) = false := decide_eq_false (by omega)
  rw [if_neg h1]
  clear h1
  go_enter Tryd.func17, Tryd.ntmps17
  go_wp2_with fail
  rw [← hW0]
  clear hW0
  refine CL.out.mono ?_
  rintro e w1 ⟨v, rfl, hv, hk⟩
  have HV := Lib.hid hv
  have HK := Lib.hid (K0.out.trans hk)
  clear hv hk CL
  go_wp2_with fail
  go_ret
  exact ⟨v, rfl, HV.out, HK.out⟩
set_option maxHeartbeats 4000000 in
set_option maxRecDepth 100000 in
theorem icheckStart_any (i : ImgV) (vp vs vi vb : Value) (ves : List Value) (w : World) (h : ImgAt w i vp vs vi vb ves) (hm : ImgMid i) :
    Calls Tryd.prog 18 #[imgVal i vp vs vi vb] w (IChk w (staW i)) := by
  have HO := Lib.hid h
  have CS := Lib.hid (fun W (kw : Keep w W) => icallable_any i vp vs vi vb ves i.start i.addr W (HO.out.keep kw) hm)
  obtain ⟨pq, pc, rfl, _⟩ := h.parts
  obtain ⟨sq, sc, rfl, _⟩ := h.shares
  obtain ⟨iq, ic, rfl, _⟩ := h.inits
  obtain ⟨bq, bc, rfl, _⟩ := h.bytes
  unfold imgVal at CS ⊢
  obtain ⟨W0, hW0⟩ : ∃ W0, W0 = w.alloc (.cells #[.int .u32 i.size, .slice pq i.parts.length pc, .slice sq i.shares.length sc, .slice iq i.inits.length ic, .int .i64 i.start, .int .u32 i.addr, .slice bq i.bytes.length bc] 28) := ⟨_, rfl⟩
  have K0 : Hid (Keep w W0) := Lib.hid (by rw [hW0]; exact (Keep.refl _).alloc _)
  have B0 : Hid (Box W0 w.heap.size #[.int .u32 i.size, .slice pq i.parts.length pc, .slice sq i.shares.length sc, .slice iq i.inits.length ic, .int .i64 i.start, .int .u32 i.addr, .slice bq i.bytes.length bc]) := Lib.hid (by rw [hW0]; exact Box.new _ _ _)
  unfold staW
  obtain ⟨se, hse⟩ : ∃ se, callE i i.start i.addr = se := ⟨_, rfl⟩
  rw [hse] at CS ⊢
  clear h hm HO hse
  go_enter Tryd.func18, Tryd.ntmps18
  go_wp2_with fail
  rw [← hW0]
  clear hW0
  refine Rel.regionO (KeepBut (fun z => W0.heap.size ≤ z)) (butWay _) [8] [0, 1, 2, 3, 4, 5, 6, 7, 8, 9] (by kernel_rfl) (by kernel_rfl) (Keep.refl _) ?_
  repeat (apply Rel.ordK_step (by rfl) (by rfl) (by rfl)
          · intro W' hW'
            have kW := hW'.keep (fun z hz => hz)
            have c1 := (B0.out.keep kW).cells
            go_simp
            first
              | (apply yes_enter; go_at_call 40; with_reducible refine (CS.out _ (K0.out.trans kW)).mono ?_; rintro e w' ⟨rfl, hk⟩; exact ⟨rfl, hk⟩)
              | exact ⟨rfl, Keep.refl _⟩
          go_simp)
  apply Rel.ordK_loose (by rfl) (by rfl) (by rfl)
  intro Wa hk0
  have hWa := hk0.but (fun z => W0.heap.size ≤ z)
  clear hk0
  go_simp
  apply Rel.gives_enter
  go_at_call 31
  by_cases z : se = 0
  · subst z
    refine (ifault_zero _ _ _).mono ?_
    rintro e w1 ⟨rfl, hk⟩
    refine ⟨_, rfl, hk.but _, ?_⟩
    have HK1 := Lib.hid (((hWa.keep (fun z hz => hz)).trans hk))
    clear hk hWa
    go_simp
    apply Rel.ordK_step (by rfl) (by rfl) (by rfl)
    · intro W' hW'
      go_simp
      exact ⟨rfl, Keep.refl _⟩
    go_simp
    apply Rel.ordK_end
    intro W5 hW5
    have K5 := Lib.hid (K0.out.trans (HK1.out.trans hW5))
    clear hW5
    go_wp2_with fail
    go_ret
    exact IChk.nil K5.out
  · have NZ := Lib.hid z
    clear z
    refine (ifault_not _ _ _ NZ.out _).mono ?_
    rintro e w1 ⟨q, rfl, _, hB, hk⟩
    refine ⟨_, rfl, hk.but _, ?_⟩
    have HK1 := Lib.hid (((hWa.keep (fun z hz => hz)).trans hk))
    have HB := Lib.hid hB
    clear hk hWa hB
    unfold faultP
    go_simp
    apply Rel.ordK_step (by rfl) (by rfl) (by rfl)
    · intro W' hW'
      go_simp
      exact ⟨rfl, Keep.refl _⟩
    go_simp
    apply Rel.ordK_end
    intro W5 hW5
    have K5 := Lib.hid (K0.out.trans (HK1.out.trans hW5))
    have B5 := Lib.hid (HB.out.keep hW5)
    clear hW5
    go_wp2_with fail
    go_ret
    rw [errW_not NZ.out]
    exact IChk.bad NZ.out B5.out K5.out
end Go.Proofs.YtmcbeclkocjlkaaDoor
