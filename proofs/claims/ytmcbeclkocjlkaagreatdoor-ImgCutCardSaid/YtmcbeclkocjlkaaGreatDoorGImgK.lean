/- ImgChe, ImgChk: The reference's CheckImg: what is wrong ahead of its loops; by gen/img3.py. -/
import Derived.Test.YtmcbeclkocjlkaaGreatDoorGImgF
import Derived.Test.YtmcbeclkocjlkaaGreatDoorImgEnt
import Derived.Test.YtmcbeclkocjlkaaGreatDoorGObjF
import Derived.Test.YtmcbeclkocjlkaaGreatDoorSpansAt
import Derived.Test.YtmcbeclkocjlkaaGreatDoorGImgI
/- The reference's CheckImg: what is wrong ahead of its loops; by gen/img3.py. -/
namespace Go.Proofs.YtmcbeclkocjlkaaGreatDoor
set_option linter.unusedVariables false
set_option linter.unusedSimpArgs false
open Go Go.RowKit
theorem iwrong_any (p : ByteArray) (a e : Int) (w : World) : Calls Tryz.prog 13 #[.string p, .int .i64 a, .int .i64 e] w fun x w' => x = .returned (.agg #[.string p, .int .i64 a, .int .i64 e]) ∧ Keep w w' := by
  go_enter Tryz.func13, Tryz.ntmps13
  go_wp2_with fail
  have B := Box.new w #[.string p, .int .i64 a, .int .i64 e] 33
  first
    | (go_ret; exact ⟨rfl, Keep.refl _⟩)
    | (refine bodyPost_ret (v := .agg #[.string p, .int .i64 a, .int .i64 e]) (by simp [results, Tryz.results13, go_sem]; done) rfl ⟨rfl, ?_⟩
       repeat (with_reducible refine Keep.setAt ?_ ?_ _; · first | omega | (simp; done) | (simp; omega))
       first | exact (Keep.refl _).alloc _ | exact Keep.refl _)
/-- What is owned, as it lies. -/
theorem owns_sl {w : World} {base : Nat} {e : TypeId} {size : Nat} {v : Value} {n : Nat} {xs : List Value} (h : w.ownsRow base e size v n xs) (hm : n ≤ maxLen) : SlAt w v n xs := by
  obtain ⟨p, cap, e, h1, h2, h3⟩ := owns_cells h hm
  refine ⟨p, cap, e, h1, h2, ?_⟩
  rcases h3 with h3 | ⟨b, h3, _, h4, h5⟩
  · exact .inl h3
  · exact .inr ⟨b, 0, h3, h4, h5⟩
def imgT4 (i : ImgV) : WrV :=
  if i.start < 0 ∨ (i.parts.length : Int) ≤ i.start then (startT, i.start, 6) else
  if (match i.parts[i.start.toNat]? with
    | none => false
    | some p => amongI p.entries i.addr) = false then (startT, i.start, 12) else okW
def imgT3 (i : ImgV) : WrV := match firstE (initE i) i.inits.length 0 with
  | some (k, e) => (initT, k, e)
  | none => imgT4 i
def imgT2 (i : ImgV) : WrV := match firstE (entE i) (entsI i).length 0 with
  | some (k, e) => (entryT, k, e)
  | none => imgT3 i
def imgT1 (i : ImgV) : WrV := match firstE (partE i) i.parts.length 0 with
  | some (k, e) => (partT, k, e)
  | none => imgT2 i
def imgT0 (i : ImgV) : WrV := match firstE (spanE i) (spansI i).length 0 with
  | some (k, e) => (spanT, k, e)
  | none => imgT1 i
theorem imgW_T {i : ImgV} (h1 : ¬ (i.size < 16 ∨ 65536 < i.size)) (h2 : ¬ i.size % 16 ≠ 0) (h3 : ¬ (i.bytes.length : Int) > i.size) (h4 : ¬ i.parts.length = 0) (h5 : ¬ i.parts.length > 8) (h6 : ¬ i.shares.length > 8) (h7 : ¬ i.inits.length > 512) : imgW i = imgT0 i := by
  unfold imgW
  rw [if_neg h1, if_neg h2, if_neg h3, if_neg h4, if_neg h5, if_neg h6]
  unfold imgT0 imgT1 imgT2 imgT3 imgT4
  rw [if_neg h7] <;> rfl
theorem imgT0_some {i : ImgV} {k : Nat} {e : Int} (h : firstE (spanE i) (spansI i).length 0 = some (k, e)) : imgT0 i = (spanT, (k : Int), e) := by unfold imgT0; rw [h]
theorem imgT0_none {i : ImgV} (h : firstE (spanE i) (spansI i).length 0 = none) : imgT0 i = imgT1 i := by unfold imgT0; rw [h]
theorem imgT1_some {i : ImgV} {k : Nat} {e : Int} (h : firstE (partE i) i.parts.length 0 = some (k, e)) : imgT1 i = (partT, (k : Int), e) := by unfold imgT1; rw [h]
theorem imgT1_none {i : ImgV} (h : firstE (partE i) i.parts.length 0 = none) : imgT1 i = imgT2 i := by unfold imgT1; rw [h]
theorem imgT2_some {i : ImgV} {k : Nat} {e : Int} (h : firstE (entE i) (entsI i).length 0 = some (k, e)) : imgT2 i = (entryT, (k : Int), e) := by unfold imgT2; rw [h]
theorem imgT2_none {i : ImgV} (h : firstE (entE i) (entsI i).length 0 = none) : imgT2 i = imgT3 i := by unfold imgT2; rw [h]
theorem imgT3_some {i : ImgV} {k : Nat} {e : Int} (h : firstE (initE i) i.inits.length 0 = some (k, e)) : imgT3 i = (initT, (k : Int), e) := by unfold imgT3; rw [h]
theorem imgT3_none {i : ImgV} (h : firstE (initE i) i.inits.length 0 = none) : imgT3 i = imgT4 i := by unfold imgT3; rw [h]
/-- What lies ahead of all the loops. -/
structure ChkI (i : ImgV) (pp sp ip bp : Option Addr) (pcap scap icap bcap : Nat) (ves : List Value) (w : World) : Prop where
  at_ : ImgAt w i (.slice pp i.parts.length pcap) (.slice sp i.shares.length scap) (.slice ip i.inits.length icap) (.slice bp i.bytes.length bcap) ves
  few : ImgFew i
  num : ImgNum i
theorem sl_form {w : World} {v : Value} {n : Nat} {xs : List Value} (h : SlAt w v n xs) : ∃ p c, v = .slice p n c := by
  obtain ⟨p, c, e, _⟩ := h
  exact ⟨p, c, e⟩
set_option maxHeartbeats 8000000 in
set_option maxRecDepth 100000 in
theorem chk_lo (i : ImgV) (pp sp ip bp : Option Addr) (pcap scap icap bcap : Nat) (ves : List Value) (w : World) (hI : ChkI i pp sp ip bp pcap scap icap bcap ves w) (h : i.size < 16) :
    Calls Tryz.prog 6 #[.agg #[.int .u32 i.size, .slice pp i.parts.length pcap, .slice sp i.shares.length scap, .slice ip i.inits.length icap, .int .i64 i.start, .int .u32 i.addr, .slice bp i.bytes.length bcap]] w fun e w' => e = .returned (wrVal (imgW i)) ∧ Keep w w' := by
  have HI := Lib.hid hI
  have fp := hI.few.parts
  have fs := hI.few.shares
  have fi := hI.few.inits
  have fb := hI.few.bytes
  have z0 := hI.num.size.1
  have z1 := hI.num.size.2
  have CW := Lib.hid (fun p a e W => iwrong_any p a e W)
  clear hI
  have K0 : Hid (Keep w ((w.alloc (.cells #[.int .u32 i.size, .slice pp i.parts.length pcap, .slice sp i.shares.length scap, .slice ip i.inits.length icap, .int .i64 i.start, .int .u32 i.addr, .slice bp i.bytes.length bcap] 39)).alloc (.cells #[.string ⟨#[]⟩, .int .i64 0, .int .i64 0] 33))) := Lib.hid (((Keep.refl _).alloc _).alloc _)
  have B0 : Hid (Box ((w.alloc (.cells #[.int .u32 i.size, .slice pp i.parts.length pcap, .slice sp i.shares.length scap, .slice ip i.inits.length icap, .int .i64 i.start, .int .u32 i.addr, .slice bp i.bytes.length bcap] 39)).alloc (.cells #[.string ⟨#[]⟩, .int .i64 0, .int .i64 0] 33)) w.heap.size #[.int .u32 i.size, .slice pp i.parts.length pcap, .slice sp i.shares.length scap, .slice ip i.inits.length icap, .int .i64 i.start, .int .u32 i.addr, .slice bp i.bytes.length bcap]) := Lib.hid ((Box.new _ _ _).alloc _)
  have R0 : Hid (Box ((w.alloc (.cells #[.int .u32 i.size, .slice pp i.parts.length pcap, .slice sp i.shares.length scap, .slice ip i.inits.length icap, .int .i64 i.start, .int .u32 i.addr, .slice bp i.bytes.length bcap] 39)).alloc (.cells #[.string ⟨#[]⟩, .int .i64 0, .int .i64 0] 33)) (w.heap.size + 1) #[.string ⟨#[]⟩, .int .i64 0, .int .i64 0]) := Lib.hid (Box.new1 _ _ _ _)
  have d1 : decide (i.size < 16) = true := decide_eq_true h
  have HEQ : Hid (imgW i = ((sizeT, i.size, 6) : WrV)) := Lib.hid (by unfold imgW; rw [if_pos (.inl h)])
  clear h
  go_enter Tryz.func6, Tryz.ntmps6
  go_wp2_with fail
  refine (CW.out _ _ _ _).mono ?_
  rintro e wq ⟨rfl, hkq⟩
  have KQ := Lib.hid (K0.out.trans ((Keep.refl _).trans hkq))
  have RQ := R0.out.keep ((Keep.refl _).trans hkq)
  clear hkq
  have r0 := RQ.cells
  have rf := RQ.thawed
  go_wp2_with fail
  refine bodyPost_ret (v := wrVal ((sizeT, i.size, 6) : WrV)) (by simp [results, Tryz.results6, go_sem, r0, wrVal, sizeT, bytesT, partsT, sharesT, spanT, partT, entryT, initsT, initT, startT, okW]; done) rfl ⟨?_, ?_⟩
  rotate_left
  · repeat (with_reducible refine Keep.setAt ?_ ?_ _; · first | omega | (simp; done) | (simp; omega))
    exact KQ.out
  rw [HEQ.out]
set_option maxHeartbeats 8000000 in
set_option maxRecDepth 100000 in
theorem chk_hi (i : ImgV) (pp sp ip bp : Option Addr) (pcap scap icap bcap : Nat) (ves : List Value) (w : World) (hI : ChkI i pp sp ip bp pcap scap icap bcap ves w) (h : 65536 < i.size) :
    Calls Tryz.prog 6 #[.agg #[.int .u32 i.size, .slice pp i.parts.length pcap, .slice sp i.shares.length scap, .slice ip i.inits.length icap, .int .i64 i.start, .int .u32 i.addr, .slice bp i.bytes.length bcap]] w fun e w' => e = .returned (wrVal (imgW i)) ∧ Keep w w' := by
  have HI := Lib.hid hI
  have fp := hI.few.parts
  have fs := hI.few.shares
  have fi := hI.few.inits
  have fb := hI.few.bytes
  have z0 := hI.num.size.1
  have z1 := hI.num.size.2
  have CW := Lib.hid (fun p a e W => iwrong_any p a e W)
  clear hI
  have K0 : Hid (Keep w ((w.alloc (.cells #[.int .u32 i.size, .slice pp i.parts.length pcap, .slice sp i.shares.length scap, .slice ip i.inits.length icap, .int .i64 i.start, .int .u32 i.addr, .slice bp i.bytes.length bcap] 39)).alloc (.cells #[.string ⟨#[]⟩, .int .i64 0, .int .i64 0] 33))) := Lib.hid (((Keep.refl _).alloc _).alloc _)
  have B0 : Hid (Box ((w.alloc (.cells #[.int .u32 i.size, .slice pp i.parts.length pcap, .slice sp i.shares.length scap, .slice ip i.inits.length icap, .int .i64 i.start, .int .u32 i.addr, .slice bp i.bytes.length bcap] 39)).alloc (.cells #[.string ⟨#[]⟩, .int .i64 0, .int .i64 0] 33)) w.heap.size #[.int .u32 i.size, .slice pp i.parts.length pcap, .slice sp i.shares.length scap, .slice ip i.inits.length icap, .int .i64 i.start, .int .u32 i.addr, .slice bp i.bytes.length bcap]) := Lib.hid ((Box.new _ _ _).alloc _)
  have R0 : Hid (Box ((w.alloc (.cells #[.int .u32 i.size, .slice pp i.parts.length pcap, .slice sp i.shares.length scap, .slice ip i.inits.length icap, .int .i64 i.start, .int .u32 i.addr, .slice bp i.bytes.length bcap] 39)).alloc (.cells #[.string ⟨#[]⟩, .int .i64 0, .int .i64 0] 33)) (w.heap.size + 1) #[.string ⟨#[]⟩, .int .i64 0, .int .i64 0]) := Lib.hid (Box.new1 _ _ _ _)
  have d1 : decide (i.size < 16) = false := decide_eq_false (by omega)
  have d2 : decide (65536 < i.size) = true := decide_eq_true h
  have HEQ : Hid (imgW i = ((sizeT, i.size, 6) : WrV)) := Lib.hid (by unfold imgW; rw [if_pos (.inr h)])
  clear h
  go_enter Tryz.func6, Tryz.ntmps6
  go_wp2_with fail
  refine (CW.out _ _ _ _).mono ?_
  rintro e wq ⟨rfl, hkq⟩
  have KQ := Lib.hid (K0.out.trans ((Keep.refl _).trans hkq))
  have RQ := R0.out.keep ((Keep.refl _).trans hkq)
  clear hkq
  have r0 := RQ.cells
  have rf := RQ.thawed
  go_wp2_with fail
  refine bodyPost_ret (v := wrVal ((sizeT, i.size, 6) : WrV)) (by simp [results, Tryz.results6, go_sem, r0, wrVal, sizeT, bytesT, partsT, sharesT, spanT, partT, entryT, initsT, initT, startT, okW]; done) rfl ⟨?_, ?_⟩
  rotate_left
  · repeat (with_reducible refine Keep.setAt ?_ ?_ _; · first | omega | (simp; done) | (simp; omega))
    exact KQ.out
  rw [HEQ.out]
set_option maxHeartbeats 8000000 in
set_option maxRecDepth 100000 in
theorem chk_mod (i : ImgV) (pp sp ip bp : Option Addr) (pcap scap icap bcap : Nat) (ves : List Value) (w : World) (hI : ChkI i pp sp ip bp pcap scap icap bcap ves w) (h1 : ¬ (i.size < 16 ∨ 65536 < i.size)) (h : ¬ i.size % 16 = 0) :
    Calls Tryz.prog 6 #[.agg #[.int .u32 i.size, .slice pp i.parts.length pcap, .slice sp i.shares.length scap, .slice ip i.inits.length icap, .int .i64 i.start, .int .u32 i.addr, .slice bp i.bytes.length bcap]] w fun e w' => e = .returned (wrVal (imgW i)) ∧ Keep w w' := by
  have HI := Lib.hid hI
  have fp := hI.few.parts
  have fs := hI.few.shares
  have fi := hI.few.inits
  have fb := hI.few.bytes
  have z0 := hI.num.size.1
  have z1 := hI.num.size.2
  have CW := Lib.hid (fun p a e W => iwrong_any p a e W)
  clear hI
  have K0 : Hid (Keep w ((w.alloc (.cells #[.int .u32 i.size, .slice pp i.parts.length pcap, .slice sp i.shares.length scap, .slice ip i.inits.length icap, .int .i64 i.start, .int .u32 i.addr, .slice bp i.bytes.length bcap] 39)).alloc (.cells #[.string ⟨#[]⟩, .int .i64 0, .int .i64 0] 33))) := Lib.hid (((Keep.refl _).alloc _).alloc _)
  have B0 : Hid (Box ((w.alloc (.cells #[.int .u32 i.size, .slice pp i.parts.length pcap, .slice sp i.shares.length scap, .slice ip i.inits.length icap, .int .i64 i.start, .int .u32 i.addr, .slice bp i.bytes.length bcap] 39)).alloc (.cells #[.string ⟨#[]⟩, .int .i64 0, .int .i64 0] 33)) w.heap.size #[.int .u32 i.size, .slice pp i.parts.length pcap, .slice sp i.shares.length scap, .slice ip i.inits.length icap, .int .i64 i.start, .int .u32 i.addr, .slice bp i.bytes.length bcap]) := Lib.hid ((Box.new _ _ _).alloc _)
  have R0 : Hid (Box ((w.alloc (.cells #[.int .u32 i.size, .slice pp i.parts.length pcap, .slice sp i.shares.length scap, .slice ip i.inits.length icap, .int .i64 i.start, .int .u32 i.addr, .slice bp i.bytes.length bcap] 39)).alloc (.cells #[.string ⟨#[]⟩, .int .i64 0, .int .i64 0] 33)) (w.heap.size + 1) #[.string ⟨#[]⟩, .int .i64 0, .int .i64 0]) := Lib.hid (Box.new1 _ _ _ _)
  have d1 : decide (i.size < 16) = false := decide_eq_false (by omega)
  have d2 : decide (65536 < i.size) = false := decide_eq_false (by omega)
  have d3 : (i.size % 16 == 0) = false := beq_eq_false_iff_ne.2 h
  have d4 : (i.size % 16 != 0) = true := by rw [bne, d3]; rfl
  have HEQ : Hid (imgW i = ((sizeT, i.size, 5) : WrV)) := Lib.hid (by unfold imgW; rw [if_neg h1, if_pos h])
  clear h1 h
  go_enter Tryz.func6, Tryz.ntmps6
  go_wp2_with fail
  refine (CW.out _ _ _ _).mono ?_
  rintro e wq ⟨rfl, hkq⟩
  have KQ := Lib.hid (K0.out.trans ((Keep.refl _).trans hkq))
  have RQ := R0.out.keep ((Keep.refl _).trans hkq)
  clear hkq
  have r0 := RQ.cells
  have rf := RQ.thawed
  go_wp2_with fail
  refine bodyPost_ret (v := wrVal ((sizeT, i.size, 5) : WrV)) (by simp [results, Tryz.results6, go_sem, r0, wrVal, sizeT, bytesT, partsT, sharesT, spanT, partT, entryT, initsT, initT, startT, okW]; done) rfl ⟨?_, ?_⟩
  rotate_left
  · repeat (with_reducible refine Keep.setAt ?_ ?_ _; · first | omega | (simp; done) | (simp; omega))
    exact KQ.out
  rw [HEQ.out]
set_option maxHeartbeats 8000000 in
set_option maxRecDepth 100000 in
theorem chk_bytes (i : ImgV) (pp sp ip bp : Option Addr) (pcap scap icap bcap : Nat) (ves : List Value) (w : World) (hI : ChkI i pp sp ip bp pcap scap icap bcap ves w) (h1 : ¬ (i.size < 16 ∨ 65536 < i.size)) (h2 : i.size % 16 = 0) (h : (i.bytes.length : Int) > i.size) :
    Calls Tryz.prog 6 #[.agg #[.int .u32 i.size, .slice pp i.parts.length pcap, .slice sp i.shares.length scap, .slice ip i.inits.length icap, .int .i64 i.start, .int .u32 i.addr, .slice bp i.bytes.length bcap]] w fun e w' => e = .returned (wrVal (imgW i)) ∧ Keep w w' := by
  have HI := Lib.hid hI
  have fp := hI.few.parts
  have fs := hI.few.shares
  have fi := hI.few.inits
  have fb := hI.few.bytes
  have z0 := hI.num.size.1
  have z1 := hI.num.size.2
  have CW := Lib.hid (fun p a e W => iwrong_any p a e W)
  clear hI
  have K0 : Hid (Keep w ((w.alloc (.cells #[.int .u32 i.size, .slice pp i.parts.length pcap, .slice sp i.shares.length scap, .slice ip i.inits.length icap, .int .i64 i.start, .int .u32 i.addr, .slice bp i.bytes.length bcap] 39)).alloc (.cells #[.string ⟨#[]⟩, .int .i64 0, .int .i64 0] 33))) := Lib.hid (((Keep.refl _).alloc _).alloc _)
  have B0 : Hid (Box ((w.alloc (.cells #[.int .u32 i.size, .slice pp i.parts.length pcap, .slice sp i.shares.length scap, .slice ip i.inits.length icap, .int .i64 i.start, .int .u32 i.addr, .slice bp i.bytes.length bcap] 39)).alloc (.cells #[.string ⟨#[]⟩, .int .i64 0, .int .i64 0] 33)) w.heap.size #[.int .u32 i.size, .slice pp i.parts.length pcap, .slice sp i.shares.length scap, .slice ip i.inits.length icap, .int .i64 i.start, .int .u32 i.addr, .slice bp i.bytes.length bcap]) := Lib.hid ((Box.new _ _ _).alloc _)
  have R0 : Hid (Box ((w.alloc (.cells #[.int .u32 i.size, .slice pp i.parts.length pcap, .slice sp i.shares.length scap, .slice ip i.inits.length icap, .int .i64 i.start, .int .u32 i.addr, .slice bp i.bytes.length bcap] 39)).alloc (.cells #[.string ⟨#[]⟩, .int .i64 0, .int .i64 0] 33)) (w.heap.size + 1) #[.string ⟨#[]⟩, .int .i64 0, .int .i64 0]) := Lib.hid (Box.new1 _ _ _ _)
  have d1 : decide (i.size < 16) = false := decide_eq_false (by omega)
  have d2 : decide (65536 < i.size) = false := decide_eq_false (by omega)
  have d3 : (i.size % 16 == 0) = true := beq_iff_eq.2 h2
  have d4 : (i.size % 16 != 0) = false := by rw [bne, d3]; rfl
  have d5 : decide (i.size < (i.bytes.length : Int)) = true := decide_eq_true h
  have HEQ : Hid (imgW i = ((bytesT, i.bytes.length, 6) : WrV)) := Lib.hid (by unfold imgW; rw [if_neg h1, if_neg (fun x => x h2), if_pos h])
  clear h1 h2 h
  go_enter Tryz.func6, Tryz.ntmps6
  go_wp2_with fail
  refine (CW.out _ _ _ _).mono ?_
  rintro e wq ⟨rfl, hkq⟩
  have KQ := Lib.hid (K0.out.trans ((Keep.refl _).trans hkq))
  have RQ := R0.out.keep ((Keep.refl _).trans hkq)
  clear hkq
  have r0 := RQ.cells
  have rf := RQ.thawed
  go_wp2_with fail
  refine bodyPost_ret (v := wrVal ((bytesT, i.bytes.length, 6) : WrV)) (by simp [results, Tryz.results6, go_sem, r0, wrVal, sizeT, bytesT, partsT, sharesT, spanT, partT, entryT, initsT, initT, startT, okW]; done) rfl ⟨?_, ?_⟩
  rotate_left
  · repeat (with_reducible refine Keep.setAt ?_ ?_ _; · first | omega | (simp; done) | (simp; omega))
    exact KQ.out
  rw [HEQ.out]
set_option maxHeartbeats 8000000 in
set_option maxRecDepth 100000 in
theorem chk_none (i : ImgV) (pp sp ip bp : Option Addr) (pcap scap icap bcap : Nat) (ves : List Value) (w : World) (hI : ChkI i pp sp ip bp pcap scap icap bcap ves w) (h1 : ¬ (i.size < 16 ∨ 65536 < i.size)) (h2 : i.size % 16 = 0) (h3 : ¬ (i.bytes.length : Int) > i.size) (h : i.parts.length = 0) :
    Calls Tryz.prog 6 #[.agg #[.int .u32 i.size, .slice pp i.parts.length pcap, .slice sp i.shares.length scap, .slice ip i.inits.length icap, .int .i64 i.start, .int .u32 i.addr, .slice bp i.bytes.length bcap]] w fun e w' => e = .returned (wrVal (imgW i)) ∧ Keep w w' := by
  have HI := Lib.hid hI
  have fp := hI.few.parts
  have fs := hI.few.shares
  have fi := hI.few.inits
  have fb := hI.few.bytes
  have z0 := hI.num.size.1
  have z1 := hI.num.size.2
  have CW := Lib.hid (fun p a e W => iwrong_any p a e W)
  clear hI
  have K0 : Hid (Keep w ((w.alloc (.cells #[.int .u32 i.size, .slice pp i.parts.length pcap, .slice sp i.shares.length scap, .slice ip i.inits.length icap, .int .i64 i.start, .int .u32 i.addr, .slice bp i.bytes.length bcap] 39)).alloc (.cells #[.string ⟨#[]⟩, .int .i64 0, .int .i64 0] 33))) := Lib.hid (((Keep.refl _).alloc _).alloc _)
  have B0 : Hid (Box ((w.alloc (.cells #[.int .u32 i.size, .slice pp i.parts.length pcap, .slice sp i.shares.length scap, .slice ip i.inits.length icap, .int .i64 i.start, .int .u32 i.addr, .slice bp i.bytes.length bcap] 39)).alloc (.cells #[.string ⟨#[]⟩, .int .i64 0, .int .i64 0] 33)) w.heap.size #[.int .u32 i.size, .slice pp i.parts.length pcap, .slice sp i.shares.length scap, .slice ip i.inits.length icap, .int .i64 i.start, .int .u32 i.addr, .slice bp i.bytes.length bcap]) := Lib.hid ((Box.new _ _ _).alloc _)
  have R0 : Hid (Box ((w.alloc (.cells #[.int .u32 i.size, .slice pp i.parts.length pcap, .slice sp i.shares.length scap, .slice ip i.inits.length icap, .int .i64 i.start, .int .u32 i.addr, .slice bp i.bytes.length bcap] 39)).alloc (.cells #[.string ⟨#[]⟩, .int .i64 0, .int .i64 0] 33)) (w.heap.size + 1) #[.string ⟨#[]⟩, .int .i64 0, .int .i64 0]) := Lib.hid (Box.new1 _ _ _ _)
  have d1 : decide (i.size < 16) = false := decide_eq_false (by omega)
  have d2 : decide (65536 < i.size) = false := decide_eq_false (by omega)
  have d3 : (i.size % 16 == 0) = true := beq_iff_eq.2 h2
  have d4 : (i.size % 16 != 0) = false := by rw [bne, d3]; rfl
  have d5 : decide (i.size < (i.bytes.length : Int)) = false := decide_eq_false h3
  have d6 : ((i.parts.length : Int) == 0) = true := beq_iff_eq.2 (by omega)
  have HEQ : Hid (imgW i = ((partsT, 0, 16) : WrV)) := Lib.hid (by unfold imgW; rw [if_neg h1, if_neg (fun x => x h2), if_neg h3, if_pos h])
  clear h1 h2 h3 h
  go_enter Tryz.func6, Tryz.ntmps6
  go_wp2_with fail
  refine (CW.out _ _ _ _).mono ?_
  rintro e wq ⟨rfl, hkq⟩
  have KQ := Lib.hid (K0.out.trans ((Keep.refl _).trans hkq))
  have RQ := R0.out.keep ((Keep.refl _).trans hkq)
  clear hkq
  have r0 := RQ.cells
  have rf := RQ.thawed
  go_wp2_with fail
  refine bodyPost_ret (v := wrVal ((partsT, 0, 16) : WrV)) (by simp [results, Tryz.results6, go_sem, r0, wrVal, sizeT, bytesT, partsT, sharesT, spanT, partT, entryT, initsT, initT, startT, okW]; done) rfl ⟨?_, ?_⟩
  rotate_left
  · repeat (with_reducible refine Keep.setAt ?_ ?_ _; · first | omega | (simp; done) | (simp; omega))
    exact KQ.out
  rw [HEQ.out]
set_option maxHeartbeats 8000000 in
set_option maxRecDepth 100000 in
theorem chk_parts (i : ImgV) (pp sp ip bp : Option Addr) (pcap scap icap bcap : Nat) (ves : List Value) (w : World) (hI : ChkI i pp sp ip bp pcap scap icap bcap ves w) (h1 : ¬ (i.size < 16 ∨ 65536 < i.size)) (h2 : i.size % 16 = 0) (h3 : ¬ (i.bytes.length : Int) > i.size) (h4 : ¬ i.parts.length = 0) (h : i.parts.length > 8) :
    Calls Tryz.prog 6 #[.agg #[.int .u32 i.size, .slice pp i.parts.length pcap, .slice sp i.shares.length scap, .slice ip i.inits.length icap, .int .i64 i.start, .int .u32 i.addr, .slice bp i.bytes.length bcap]] w fun e w' => e = .returned (wrVal (imgW i)) ∧ Keep w w' := by
  have HI := Lib.hid hI
  have fp := hI.few.parts
  have fs := hI.few.shares
  have fi := hI.few.inits
  have fb := hI.few.bytes
  have z0 := hI.num.size.1
  have z1 := hI.num.size.2
  have CW := Lib.hid (fun p a e W => iwrong_any p a e W)
  clear hI
  have K0 : Hid (Keep w ((w.alloc (.cells #[.int .u32 i.size, .slice pp i.parts.length pcap, .slice sp i.shares.length scap, .slice ip i.inits.length icap, .int .i64 i.start, .int .u32 i.addr, .slice bp i.bytes.length bcap] 39)).alloc (.cells #[.string ⟨#[]⟩, .int .i64 0, .int .i64 0] 33))) := Lib.hid (((Keep.refl _).alloc _).alloc _)
  have B0 : Hid (Box ((w.alloc (.cells #[.int .u32 i.size, .slice pp i.parts.length pcap, .slice sp i.shares.length scap, .slice ip i.inits.length icap, .int .i64 i.start, .int .u32 i.addr, .slice bp i.bytes.length bcap] 39)).alloc (.cells #[.string ⟨#[]⟩, .int .i64 0, .int .i64 0] 33)) w.heap.size #[.int .u32 i.size, .slice pp i.parts.length pcap, .slice sp i.shares.length scap, .slice ip i.inits.length icap, .int .i64 i.start, .int .u32 i.addr, .slice bp i.bytes.length bcap]) := Lib.hid ((Box.new _ _ _).alloc _)
  have R0 : Hid (Box ((w.alloc (.cells #[.int .u32 i.size, .slice pp i.parts.length pcap, .slice sp i.shares.length scap, .slice ip i.inits.length icap, .int .i64 i.start, .int .u32 i.addr, .slice bp i.bytes.length bcap] 39)).alloc (.cells #[.string ⟨#[]⟩, .int .i64 0, .int .i64 0] 33)) (w.heap.size + 1) #[.string ⟨#[]⟩, .int .i64 0, .int .i64 0]) := Lib.hid (Box.new1 _ _ _ _)
  have d1 : decide (i.size < 16) = false := decide_eq_false (by omega)
  have d2 : decide (65536 < i.size) = false := decide_eq_false (by omega)
  have d3 : (i.size % 16 == 0) = true := beq_iff_eq.2 h2
  have d4 : (i.size % 16 != 0) = false := by rw [bne, d3]; rfl
  have d5 : decide (i.size < (i.bytes.length : Int)) = false := decide_eq_false h3
  have d6 : ((i.parts.length : Int) == 0) = false := beq_eq_false_iff_ne.2 (by omega)
  have d7 : decide ((8 : Int) < (i.parts.length : Int)) = true := decide_eq_true (by omega)
  have HEQ : Hid (imgW i = ((partsT, i.parts.length, 15) : WrV)) := Lib.hid (by unfold imgW; rw [if_neg h1, if_neg (fun x => x h2), if_neg h3, if_neg h4, if_pos h])
  clear h1 h2 h3 h4 h
  go_enter Tryz.func6, Tryz.ntmps6
  go_wp2_with fail
  refine (CW.out _ _ _ _).mono ?_
  rintro e wq ⟨rfl, hkq⟩
  have KQ := Lib.hid (K0.out.trans ((Keep.refl _).trans hkq))
  have RQ := R0.out.keep ((Keep.refl _).trans hkq)
  clear hkq
  have r0 := RQ.cells
  have rf := RQ.thawed
  go_wp2_with fail
  refine bodyPost_ret (v := wrVal ((partsT, i.parts.length, 15) : WrV)) (by simp [results, Tryz.results6, go_sem, r0, wrVal, sizeT, bytesT, partsT, sharesT, spanT, partT, entryT, initsT, initT, startT, okW]; done) rfl ⟨?_, ?_⟩
  rotate_left
  · repeat (with_reducible refine Keep.setAt ?_ ?_ _; · first | omega | (simp; done) | (simp; omega))
    exact KQ.out
  rw [HEQ.out]
set_option maxHeartbeats 8000000 in
set_option maxRecDepth 100000 in
theorem chk_shares (i : ImgV) (pp sp ip bp : Option Addr) (pcap scap icap bcap : Nat) (ves : List Value) (w : World) (hI : ChkI i pp sp ip bp pcap scap icap bcap ves w) (h1 : ¬ (i.size < 16 ∨ 65536 < i.size)) (h2 : i.size % 16 = 0) (h3 : ¬ (i.bytes.length : Int) > i.size) (h4 : ¬ i.parts.length = 0) (h5 : ¬ i.parts.length > 8) (h : i.shares.length > 8) :
    Calls Tryz.prog 6 #[.agg #[.int .u32 i.size, .slice pp i.parts.length pcap, .slice sp i.shares.length scap, .slice ip i.inits.length icap, .int .i64 i.start, .int .u32 i.addr, .slice bp i.bytes.length bcap]] w fun e w' => e = .returned (wrVal (imgW i)) ∧ Keep w w' := by
  have HI := Lib.hid hI
  have fp := hI.few.parts
  have fs := hI.few.shares
  have fi := hI.few.inits
  have fb := hI.few.bytes
  have z0 := hI.num.size.1
  have z1 := hI.num.size.2
  have CW := Lib.hid (fun p a e W => iwrong_any p a e W)
  clear hI
  have K0 : Hid (Keep w ((w.alloc (.cells #[.int .u32 i.size, .slice pp i.parts.length pcap, .slice sp i.shares.length scap, .slice ip i.inits.length icap, .int .i64 i.start, .int .u32 i.addr, .slice bp i.bytes.length bcap] 39)).alloc (.cells #[.string ⟨#[]⟩, .int .i64 0, .int .i64 0] 33))) := Lib.hid (((Keep.refl _).alloc _).alloc _)
  have B0 : Hid (Box ((w.alloc (.cells #[.int .u32 i.size, .slice pp i.parts.length pcap, .slice sp i.shares.length scap, .slice ip i.inits.length icap, .int .i64 i.start, .int .u32 i.addr, .slice bp i.bytes.length bcap] 39)).alloc (.cells #[.string ⟨#[]⟩, .int .i64 0, .int .i64 0] 33)) w.heap.size #[.int .u32 i.size, .slice pp i.parts.length pcap, .slice sp i.shares.length scap, .slice ip i.inits.length icap, .int .i64 i.start, .int .u32 i.addr, .slice bp i.bytes.length bcap]) := Lib.hid ((Box.new _ _ _).alloc _)
  have R0 : Hid (Box ((w.alloc (.cells #[.int .u32 i.size, .slice pp i.parts.length pcap, .slice sp i.shares.length scap, .slice ip i.inits.length icap, .int .i64 i.start, .int .u32 i.addr, .slice bp i.bytes.length bcap] 39)).alloc (.cells #[.string ⟨#[]⟩, .int .i64 0, .int .i64 0] 33)) (w.heap.size + 1) #[.string ⟨#[]⟩, .int .i64 0, .int .i64 0]) := Lib.hid (Box.new1 _ _ _ _)
  have d1 : decide (i.size < 16) = false := decide_eq_false (by omega)
  have d2 : decide (65536 < i.size) = false := decide_eq_false (by omega)
  have d3 : (i.size % 16 == 0) = true := beq_iff_eq.2 h2
  have d4 : (i.size % 16 != 0) = false := by rw [bne, d3]; rfl
  have d5 : decide (i.size < (i.bytes.length : Int)) = false := decide_eq_false h3
  have d6 : ((i.parts.length : Int) == 0) = false := beq_eq_false_iff_ne.2 (by omega)
  have d7 : decide ((8 : Int) < (i.parts.length : Int)) = false := decide_eq_false (by omega)
  have d8 : decide ((8 : Int) < (i.shares.length : Int)) = true := decide_eq_true (by omega)
  have HEQ : Hid (imgW i = ((sharesT, i.shares.length, 15) : WrV)) := Lib.hid (by unfold imgW; rw [if_neg h1, if_neg (fun x => x h2), if_neg h3, if_neg h4, if_neg h5, if_pos h])
  clear h1 h2 h3 h4 h5 h
  go_enter Tryz.func6, Tryz.ntmps6
  go_wp2_with fail
  refine (CW.out _ _ _ _).mono ?_
  rintro e wq ⟨rfl, hkq⟩
  have KQ := Lib.hid (K0.out.trans ((Keep.refl _).trans hkq))
  have RQ := R0.out.keep ((Keep.refl _).trans hkq)
  clear hkq
  have r0 := RQ.cells
  have rf := RQ.thawed
  go_wp2_with fail
  refine bodyPost_ret (v := wrVal ((sharesT, i.shares.length, 15) : WrV)) (by simp [results, Tryz.results6, go_sem, r0, wrVal, sizeT, bytesT, partsT, sharesT, spanT, partT, entryT, initsT, initT, startT, okW]; done) rfl ⟨?_, ?_⟩
  rotate_left
  · repeat (with_reducible refine Keep.setAt ?_ ?_ _; · first | omega | (simp; done) | (simp; omega))
    exact KQ.out
  rw [HEQ.out]
end Go.Proofs.YtmcbeclkocjlkaaGreatDoor

/- The reference's CheckImg: the first that is wrong of an image; by gen/img3.py. -/
namespace Go.Proofs.YtmcbeclkocjlkaaGreatDoor
set_option linter.unusedVariables false
set_option linter.unusedSimpArgs false
open Go Go.RowKit
theorem ents_few {i : ImgV} (h : ImgFew i) : (entsI i).length ≤ 840 := by
  have h1 : ∀ (l : List PartV), (∀ p ∈ l, p.entries.length ≤ 70) → (l.map fun p => p.entries.length).sum ≤ l.length * 70 := fun l => by
    induction l with
    | nil => intro _; simp
    | cons p l ih =>
      intro h
      have a := h p (by simp)
      have b := ih (fun q hq => h q (by simp [hq]))
      simp only [List.map_cons, List.sum_cons, List.length_cons]
      omega
  have h2 := h1 i.parts h.ents
  have h3 := h.parts
  unfold entsI
  rw [ents_len]
  omega
theorem spanF_a {r t : Bool} : spanF true r t = 5 := rfl
theorem spanF_r {t : Bool} : spanF false true t = 6 := rfl
theorem spanF_t : spanF false false true = 13 := rfl
theorem spanF_0 : spanF false false false = 0 := rfl
set_option maxHeartbeats 8000000 in
set_option maxRecDepth 100000 in
theorem chk_main (i : ImgV) (pp sp ip bp : Option Addr) (pcap scap icap bcap : Nat) (ves : List Value) (w : World) (hI : ChkI i pp sp ip bp pcap scap icap bcap ves w) (h1 : ¬ (i.size < 16 ∨ 65536 < i.size)) (h2 : i.size % 16 = 0) (h3 : ¬ (i.bytes.length : Int) > i.size) (h4 : ¬ i.parts.length = 0) (h5 : ¬ i.parts.length > 8) (h6 : ¬ i.shares.length > 8) :
    Calls Tryz.prog 6 #[.agg #[.int .u32 i.size, .slice pp i.parts.length pcap, .slice sp i.shares.length scap, .slice ip i.inits.length icap, .int .i64 i.start, .int .u32 i.addr, .slice bp i.bytes.length bcap]] w fun e w' => e = .returned (wrVal (imgW i)) ∧ Keep w w' := by
  have HI := Lib.hid hI
  have fp := hI.few.parts
  have fs := hI.few.shares
  have fi := hI.few.inits
  have fb := hI.few.bytes
  have z0 := hI.num.size.1
  have z1 := hI.num.size.2
  have CW := Lib.hid (fun p a e W => iwrong_any p a e W)
  clear hI
  have K0 : Hid (Keep w ((w.alloc (.cells #[.int .u32 i.size, .slice pp i.parts.length pcap, .slice sp i.shares.length scap, .slice ip i.inits.length icap, .int .i64 i.start, .int .u32 i.addr, .slice bp i.bytes.length bcap] 39)).alloc (.cells #[.string ⟨#[]⟩, .int .i64 0, .int .i64 0] 33))) := Lib.hid (((Keep.refl _).alloc _).alloc _)
  have B0 : Hid (Box ((w.alloc (.cells #[.int .u32 i.size, .slice pp i.parts.length pcap, .slice sp i.shares.length scap, .slice ip i.inits.length icap, .int .i64 i.start, .int .u32 i.addr, .slice bp i.bytes.length bcap] 39)).alloc (.cells #[.string ⟨#[]⟩, .int .i64 0, .int .i64 0] 33)) w.heap.size #[.int .u32 i.size, .slice pp i.parts.length pcap, .slice sp i.shares.length scap, .slice ip i.inits.length icap, .int .i64 i.start, .int .u32 i.addr, .slice bp i.bytes.length bcap]) := Lib.hid ((Box.new _ _ _).alloc _)
  have R0 : Hid (Box ((w.alloc (.cells #[.int .u32 i.size, .slice pp i.parts.length pcap, .slice sp i.shares.length scap, .slice ip i.inits.length icap, .int .i64 i.start, .int .u32 i.addr, .slice bp i.bytes.length bcap] 39)).alloc (.cells #[.string ⟨#[]⟩, .int .i64 0, .int .i64 0] 33)) (w.heap.size + 1) #[.string ⟨#[]⟩, .int .i64 0, .int .i64 0]) := Lib.hid (Box.new1 _ _ _ _)
  have d1 : decide (i.size < 16) = false := decide_eq_false (by omega)
  have d2 : decide (65536 < i.size) = false := decide_eq_false (by omega)
  have d3 : (i.size % 16 == 0) = true := beq_iff_eq.2 h2
  have d4 : (i.size % 16 != 0) = false := by rw [bne, d3]; rfl
  have d5 : decide (i.size < (i.bytes.length : Int)) = false := decide_eq_false h3
  have d6 : ((i.parts.length : Int) == 0) = false := beq_eq_false_iff_ne.2 (by omega)
  have d7 : decide ((8 : Int) < (i.parts.length : Int)) = false := decide_eq_false (by omega)
  have d8 : decide ((8 : Int) < (i.shares.length : Int)) = false := decide_eq_false (by omega)
  have HW := Lib.hid (imgW_T h1 (fun x => x h2) h3 h4 h5 h6 (by omega))
  have nsp : spansI i ≠ [] := fun e => by
    have := congrArg List.length e
    rw [spansI_few] at this
    simp at this
    omega
  have NSP := Lib.hid nsp
  have hN : (spansI i).length ≤ 36 := by rw [spansI_few]; omega
  have np : 0 < i.parts.length := by omega
  obtain ⟨_, _, e0, _, _, hpx⟩ := HI.out.at_.partsAt
  cases e0
  rcases hpx with hpx | ⟨pb, po, rfl, hpb, hpx⟩
  · rw [hpx] at np; simp at np
  have HPX := Lib.hid hpx
  have HPB := Lib.hid hpb
  have CSP := Lib.hid (rspans_any i _ _ _ _ ves _ (HI.out.at_.keep K0.out) (by omega) (by omega))
  unfold imgVal at CSP
  clear h1 h2 h3 h4 h5 h6 nsp hpx hpb
  have b0 := B0.out.cells
  go_enter Tryz.func6, Tryz.ntmps6
  go_wp2_with fail
  refine CSP.out.mono ?_
  rintro e w1 ⟨vl, rfl, hown, hk1⟩
  have KA := Lib.hid hk1
  obtain ⟨sb, so, sc, rfl, hsb, hsx⟩ := spans_at (owns_sl hown (by unfold maxLen; omega)) NSP.out
  have HX := Lib.hid hsx
  clear hown hk1 hsx b0 CSP d1 d2 d3 d4 d5 d6 d7 d8
  obtain ⟨N, hNe⟩ : ∃ N, N = (spansI i).length := ⟨_, rfl⟩
  rw [← hNe] at hN ⊢
  have HNE := Lib.hid hNe
  clear hNe
  go_wp2_with fail
  go_loopw [4] (fun x wr => ∃ k : Nat, k ≤ N ∧ x = .int .i64 (k : Int) ∧ firstE (spanE i) N 0 = firstE (spanE i) (N - k) k ∧ Keep w1 wr) (fun x _ => N - (intOf x).toNat)
  case atStart => exact ⟨0, Nat.zero_le _, rfl, rfl, Keep.refl _⟩
  case round =>
    obtain ⟨k, hk, rfl, hfi, hK⟩ := hrel
    have HFI := Lib.hid hfi
    have AK := Lib.hid hK
    have k0 : (0 : Int) ≤ (k : Int) := Int.natCast_nonneg _
    have c0 := (B0.out.keep (KA.out.trans hK)).cells
    clear hfi hK
    by_cases hlt : k < N
    · have hki : (k : Int) < (N : Int) := by omega
      obtain ⟨s, hs⟩ : ∃ s, (spansI i)[k]? = some s := ⟨_, List.getElem?_eq_getElem (by rw [← HNE.out]; exact hlt)⟩
      have so1 := HI.out.num.spans s (List.mem_of_getElem? hs)
      have HSO := Lib.hid so1
      obtain ⟨⟨sa0, sa1⟩, sz0, sz1⟩ := so1
      have HSE := Lib.hid (spanE_F hs)
      have HSK := Lib.hid hs
      have y0 := AK.out.cellOf (HX.out k s hs).1
      have y1 := AK.out.cellOf (HX.out k s hs).2
      have Y0 := Lib.hid y0
      have Y1 := Lib.hid y1
      have lb : sb < wr.heap.size := Nat.lt_of_lt_of_le hsb AK.out.size
      clear hs
      rcases Bool.eq_false_or_eq_true (s.at_ % 16 == 0) with e1 | e1
      rotate_left
      · have e2 : (s.at_ % 16 != 0) = true := by rw [bne, e1]; rfl
        have HV : Hid (spanE i k = 5) := Lib.hid (by rw [HSE.out, decide_eq_true (beq_eq_false_iff_ne.1 e1), Bool.true_or, spanF_a])
        have HH := Lib.hid (HFI.out.trans (first_hit hlt (by rw [HV.out]; decide)))
        go_wp2_with fail
        refine (CW.out _ _ _ _).mono ?_
        rintro e wq ⟨rfl, hkq⟩
        have KQ := Lib.hid (K0.out.trans ((KA.out.trans AK.out).trans hkq))
        have RQ := R0.out.keep ((KA.out.trans AK.out).trans hkq)
        clear hkq
        have r0 := RQ.cells
        have rf := RQ.thawed
        go_wp2_with fail
        refine bodyPost_ret (v := wrVal ((spanT, k, 5) : WrV)) (by simp [results, Tryz.results6, go_sem, r0, wrVal, sizeT, bytesT, partsT, sharesT, spanT, partT, entryT, initsT, initT, startT, okW]; done) rfl ⟨?_, ?_⟩
        rotate_left
        · repeat (with_reducible refine Keep.setAt ?_ ?_ _; · first | omega | (simp; done) | (simp; omega))
          exact KQ.out
        rw [HW.out, imgT0_some (by rw [← HNE.out]; exact HH.out), HV.out]
      have e2 : (s.at_ % 16 != 0) = false := by rw [bne, e1]; rfl
      rcases Bool.eq_false_or_eq_true (s.size % 16 == 0) with e3 | e3
      rotate_left
      · have e4 : (s.size % 16 != 0) = true := by rw [bne, e3]; rfl
        have HV : Hid (spanE i k = 5) := Lib.hid (by rw [HSE.out, decide_eq_true (p := s.size % 16 ≠ 0) (beq_eq_false_iff_ne.1 e3), Bool.or_true, spanF_a])
        have HH := Lib.hid (HFI.out.trans (first_hit hlt (by rw [HV.out]; decide)))
        go_wp2_with fail
        refine (CW.out _ _ _ _).mono ?_
        rintro e wq ⟨rfl, hkq⟩
        have KQ := Lib.hid (K0.out.trans ((KA.out.trans AK.out).trans hkq))
        have RQ := R0.out.keep ((KA.out.trans AK.out).trans hkq)
        clear hkq
        have r0 := RQ.cells
        have rf := RQ.thawed
        go_wp2_with fail
        refine bodyPost_ret (v := wrVal ((spanT, k, 5) : WrV)) (by simp [results, Tryz.results6, go_sem, r0, wrVal, sizeT, bytesT, partsT, sharesT, spanT, partT, entryT, initsT, initT, startT, okW]; done) rfl ⟨?_, ?_⟩
        rotate_left
        · repeat (with_reducible refine Keep.setAt ?_ ?_ _; · first | omega | (simp; done) | (simp; omega))
          exact KQ.out
        rw [HW.out, imgT0_some (by rw [← HNE.out]; exact HH.out), HV.out]
      have e4 : (s.size % 16 != 0) = false := by rw [bne, e3]; rfl
      have wu1 : IntKind.u64.wrap s.at_ = s.at_ := IntWalk.u64_in _ (by omega)
      have wu2 : IntKind.u64.wrap s.size = s.size := IntWalk.u64_in _ (by omega)
      have wu3 : IntKind.u64.wrap (s.at_ + s.size) = s.at_ + s.size := IntWalk.u64_in _ (by omega)
      have wu4 : IntKind.u64.wrap i.size = i.size := IntWalk.u64_in _ (by omega)
      have HSA : Hid ((decide (s.at_ % 16 ≠ 0) || decide (s.size % 16 ≠ 0)) = false) := Lib.hid (by rw [decide_eq_false (p := s.at_ % 16 ≠ 0) (fun x => x (beq_iff_eq.1 e1)), decide_eq_false (p := s.size % 16 ≠ 0) (fun x => x (beq_iff_eq.1 e3))]; rfl)
      by_cases f1 : s.at_ < 16
      · have f2 : decide (s.at_ < 16) = true := decide_eq_true f1
        have HV : Hid (spanE i k = 6) := Lib.hid (by rw [HSE.out, HSA.out, f2, Bool.true_or, spanF_r])
        have HH := Lib.hid (HFI.out.trans (first_hit hlt (by rw [HV.out]; decide)))
        go_wp2_with fail
        refine region_grows (Keep _) (by kernel_rfl) (by kernel_rfl) (Keep.refl _).drew ?_
        repeat (first
          | (apply text_pass (by rfl); go_simp)
          | (apply text_step (by rfl)
             · intro W hW
               have y0 := hW.cellOf Y0.out
               have y1 := hW.cellOf Y1.out
               have c0 := (B0.out.keep ((KA.out.trans AK.out).trans hW)).cells
               go_simp
               first
                 | exact ⟨rfl, hW⟩
             go_simp))
        apply text_end
        intro WS hWS
        have AK2 := Lib.hid (AK.out.trans hWS)
        clear hWS y0 y1 c0
        go_wp2_with fail
        refine (CW.out _ _ _ _).mono ?_
        rintro e wq ⟨rfl, hkq⟩
        have KQ := Lib.hid (K0.out.trans ((KA.out.trans AK2.out).trans hkq))
        have RQ := R0.out.keep ((KA.out.trans AK2.out).trans hkq)
        clear hkq
        have r0 := RQ.cells
        have rf := RQ.thawed
        go_wp2_with fail
        refine bodyPost_ret (v := wrVal ((spanT, k, 6) : WrV)) (by simp [results, Tryz.results6, go_sem, r0, wrVal, sizeT, bytesT, partsT, sharesT, spanT, partT, entryT, initsT, initT, startT, okW]; done) rfl ⟨?_, ?_⟩
        rotate_left
        · repeat (with_reducible refine Keep.setAt ?_ ?_ _; · first | omega | (simp; done) | (simp; omega))
          exact KQ.out
        rw [HW.out, imgT0_some (by rw [← HNE.out]; exact HH.out), HV.out]
      have f2 : decide (s.at_ < 16) = false := decide_eq_false f1
      by_cases g1 : i.size < s.at_ + s.size
      · have g2 : decide (i.size < s.at_ + s.size) = true := decide_eq_true g1
        have HV : Hid (spanE i k = 6) := Lib.hid (by rw [HSE.out, HSA.out, f2, g2, Bool.false_or, spanF_r])
        have HH := Lib.hid (HFI.out.trans (first_hit hlt (by rw [HV.out]; decide)))
        go_wp2_with fail
        refine region_grows (Keep _) (by kernel_rfl) (by kernel_rfl) (Keep.refl _).drew ?_
        repeat (first
          | (apply text_pass (by rfl); go_simp)
          | (apply text_step (by rfl)
             · intro W hW
               have y0 := hW.cellOf Y0.out
               have y1 := hW.cellOf Y1.out
               have c0 := (B0.out.keep ((KA.out.trans AK.out).trans hW)).cells
               go_simp
               first
                 | exact ⟨rfl, hW⟩
             go_simp))
        apply text_end
        intro WS hWS
        have AK2 := Lib.hid (AK.out.trans hWS)
        clear hWS y0 y1 c0
        go_wp2_with fail
        refine (CW.out _ _ _ _).mono ?_
        rintro e wq ⟨rfl, hkq⟩
        have KQ := Lib.hid (K0.out.trans ((KA.out.trans AK2.out).trans hkq))
        have RQ := R0.out.keep ((KA.out.trans AK2.out).trans hkq)
        clear hkq
        have r0 := RQ.cells
        have rf := RQ.thawed
        go_wp2_with fail
        refine bodyPost_ret (v := wrVal ((spanT, k, 6) : WrV)) (by simp [results, Tryz.results6, go_sem, r0, wrVal, sizeT, bytesT, partsT, sharesT, spanT, partT, entryT, initsT, initT, startT, okW]; done) rfl ⟨?_, ?_⟩
        rotate_left
        · repeat (with_reducible refine Keep.setAt ?_ ?_ _; · first | omega | (simp; done) | (simp; omega))
          exact KQ.out
        rw [HW.out, imgT0_some (by rw [← HNE.out]; exact HH.out), HV.out]
      have g2 : decide (i.size < s.at_ + s.size) = false := decide_eq_false g1
      have HSR : Hid ((decide (s.at_ < 16) || decide (i.size < s.at_ + s.size)) = false) := Lib.hid (by rw [f2, g2]; rfl)
      go_wp2_with fail
      refine region_grows (Keep _) (by kernel_rfl) (by kernel_rfl) (Keep.refl _).drew ?_
      repeat (first
        | (apply text_pass (by rfl); go_simp)
        | (apply text_step (by rfl)
           · intro W hW
             have y0 := hW.cellOf Y0.out
             have y1 := hW.cellOf Y1.out
             have c0 := (B0.out.keep ((KA.out.trans AK.out).trans hW)).cells
             go_simp
             first
               | exact ⟨rfl, hW⟩
           go_simp))
      apply text_end
      intro WS hWS
      have AK2 := Lib.hid (AK.out.trans hWS)
      clear hWS y0 y1 c0
      go_wp2_with fail
      go_loopw [5] (fun x wr => ∃ j : Nat, j ≤ k ∧ x = .int .i64 (j : Int) ∧ (∀ (m : Nat) (t : SpanV), m < j → (spansI i)[m]? = some t → meetS t s = false) ∧ Keep w1 wr) (fun x _ => k - (intOf x).toNat)
      case atStart => exact ⟨0, Nat.zero_le _, rfl, fun m t hm => absurd hm (by omega), AK2.out⟩
      case round =>
        obtain ⟨j, hj, rfl, hno, hK⟩ := hrel
        have HNO := Lib.hid hno
        have BK := Lib.hid hK
        have j0 : (0 : Int) ≤ (j : Int) := Int.natCast_nonneg _
        clear hno hK
        by_cases hjk : j < k
        · have hji : (j : Int) < (k : Int) := by omega
          have hjn : (j : Int) < (N : Int) := by omega
          obtain ⟨t, ht⟩ : ∃ t, (spansI i)[j]? = some t := ⟨_, List.getElem?_eq_getElem (by rw [← HNE.out]; omega)⟩
          have HTK := Lib.hid ht
          have CM := Lib.hid (fun W => rmeet_any t s (HI.out.num.spans t (List.mem_of_getElem? ht)) HSO.out W)
          unfold spanVal at CM
          have T0 := Lib.hid (HX.out j t ht)
          have S0 := Lib.hid (HX.out k s HSK.out)
          clear ht
          cases hm : meetS t s with
          | true =>
            rw [hm] at CM
            have HV : Hid (spanE i k = 13) := Lib.hid (by rw [HSE.out, HSA.out, HSR.out, any_take_at (fun t => meetS t s) (spansI i) k j t hjk HTK.out hm, spanF_t])
            have HH := Lib.hid (HFI.out.trans (first_hit hlt (by rw [HV.out]; decide)))
            clear hm
            go_wp2_with fail
            refine region_grows (Keep _) (by kernel_rfl) (by kernel_rfl) (Keep.refl _).drew ?_
            repeat (first
              | (apply text_pass (by rfl); go_simp)
              | (apply text_step (by rfl)
                 · intro W hW
                   have q0 := (BK.out.trans hW).cellOf T0.out.1
                   have q1 := (BK.out.trans hW).cellOf T0.out.2
                   have q2 := (BK.out.trans hW).cellOf S0.out.1
                   have q3 := (BK.out.trans hW).cellOf S0.out.2
                   go_simp
                   first
                     | exact ⟨rfl, hW⟩
                     | (apply yes_enter; go_at_call 15; refine (CM.out _).mono ?_; rintro e w' ⟨rfl, hk⟩; first | (subst hk; exact ⟨rfl, hW⟩) | exact ⟨rfl, hW.trans hk⟩)
                 go_simp))
            apply text_end
            intro WS hWS
            have AK3 := Lib.hid (BK.out.trans hWS)
            clear hWS
            go_wp2_with fail
            refine (CW.out _ _ _ _).mono ?_
            rintro e wq ⟨rfl, hkq⟩
            have KQ := Lib.hid (K0.out.trans ((KA.out.trans AK3.out).trans hkq))
            have RQ := R0.out.keep ((KA.out.trans AK3.out).trans hkq)
            clear hkq
            have r0 := RQ.cells
            have rf := RQ.thawed
            go_wp2_with fail
            refine bodyPost_ret (v := wrVal ((spanT, k, 13) : WrV)) (by simp [results, Tryz.results6, go_sem, r0, wrVal, sizeT, bytesT, partsT, sharesT, spanT, partT, entryT, initsT, initT, startT, okW]; done) rfl ⟨?_, ?_⟩
            rotate_left
            · repeat (with_reducible refine Keep.setAt ?_ ?_ _; · first | omega | (simp; done) | (simp; omega))
              exact KQ.out
            rw [HW.out, imgT0_some (by rw [← HNE.out]; exact HH.out), HV.out]
          | false =>
            rw [hm] at CM
            have HN2 : Hid (∀ (m : Nat) (y : SpanV), m < j + 1 → (spansI i)[m]? = some y → meetS y s = false) := Lib.hid (fun m y hmj hy => by
              by_cases e : m = j
              · subst e
                rw [HTK.out] at hy
                cases hy
                exact hm
              · exact HNO.out m y (by omega) hy)
            clear hm
            go_wp2_with fail
            refine region_grows (Keep _) (by kernel_rfl) (by kernel_rfl) (Keep.refl _).drew ?_
            repeat (first
              | (apply text_pass (by rfl); go_simp)
              | (apply text_step (by rfl)
                 · intro W hW
                   have q0 := (BK.out.trans hW).cellOf T0.out.1
                   have q1 := (BK.out.trans hW).cellOf T0.out.2
                   have q2 := (BK.out.trans hW).cellOf S0.out.1
                   have q3 := (BK.out.trans hW).cellOf S0.out.2
                   go_simp
                   first
                     | exact ⟨rfl, hW⟩
                     | (apply yes_enter; go_at_call 15; refine (CM.out _).mono ?_; rintro e w' ⟨rfl, hk⟩; first | (subst hk; exact ⟨rfl, hW⟩) | exact ⟨rfl, hW.trans hk⟩)
                 go_simp))
            apply text_end
            intro WS hWS
            have AK3 := Lib.hid (BK.out.trans hWS)
            clear hWS
            go_wp2_with fail
            go_roundw
            case rel => exact ⟨j + 1, hjk, by go_num, HN2.out, AK3.out⟩
            case measure => simp [intOf]; omega
        · obtain rfl : j = k := by omega
          have HV : Hid (spanE i j = 0) := Lib.hid (by rw [HSE.out, HSA.out, HSR.out, any_take (fun t => meetS t s) (spansI i) j (by rw [← HNE.out]; omega) HNO.out, spanF_0])
          have HN3 := Lib.hid (HFI.out.trans (first_go hlt HV.out))
          go_wp2_with fail
          go_roundw
          case rel => exact ⟨j + 1, hlt, by go_num, HN3.out, BK.out⟩
          case measure => simp [intOf]; omega
    · obtain rfl : k = N := by omega
      have HS0 : Hid (firstE (spanE i) k 0 = none) := Lib.hid (by rw [HFI.out, Nat.sub_self]; rfl)
      have HW1 : Hid (imgW i = imgT1 i) := Lib.hid (by rw [HW.out, imgT0_none (by rw [← HNE.out]; exact HS0.out)])
      clear HFI HS0 HW HX
      go_wp2_with fail
      have AK0 := Lib.hid AK.out
      go_loopw [7] (fun x wr => ∃ k : Nat, k ≤ i.parts.length ∧ x = .int .i64 (k : Int) ∧ firstE (partE i) i.parts.length 0 = firstE (partE i) (i.parts.length - k) k ∧ Keep w1 wr) (fun x _ => i.parts.length - (intOf x).toNat)
      case atStart => exact ⟨0, Nat.zero_le _, rfl, rfl, AK0.out⟩
      case round =>
        obtain ⟨k, hk, rfl, hfi, hK⟩ := hrel
        have HFI := Lib.hid hfi
        have AK := Lib.hid hK
        have k0 : (0 : Int) ≤ (k : Int) := Int.natCast_nonneg _
        have c0 := (B0.out.keep (KA.out.trans hK)).cells
        clear hfi hK
        by_cases hlt : k < i.parts.length
        · have hki : (k : Int) < (i.parts.length : Int) := by omega
          have CS := Lib.hid (rpart_any i _ _ _ _ ves k wr (HI.out.at_.keep (K0.out.trans (KA.out.trans AK.out))) HI.out.few hlt)
          unfold imgVal at CS
          obtain ⟨se, hse⟩ : ∃ se, partE i k = se := ⟨_, rfl⟩
          rw [hse] at CS
          have HSE := Lib.hid hse
          clear hse
          rcases Bool.eq_false_or_eq_true (se == 0) with z | z
          · have z2 : (se != 0) = false := by rw [bne, z]; rfl
            have HN2 := Lib.hid (HFI.out.trans (first_go hlt (by rw [HSE.out]; exact beq_iff_eq.1 z)))
            go_wp2_with fail
            refine CS.out.mono ?_
            rintro e w2 ⟨rfl, hk2⟩
            have AK2 := Lib.hid (AK.out.trans hk2)
            clear hk2
            go_wp2_with fail
            go_roundw
            case rel => exact ⟨k + 1, hlt, by go_num, HN2.out, AK2.out⟩
            case measure => simp [intOf]; omega
          · have z2 : (se != 0) = true := by rw [bne, z]; rfl
            have HH := Lib.hid (HFI.out.trans (first_hit hlt (by rw [HSE.out]; exact beq_eq_false_iff_ne.1 z)))
            go_wp2_with fail
            refine CS.out.mono ?_
            rintro e w2 ⟨rfl, hk2⟩
            have AK2 := Lib.hid (AK.out.trans hk2)
            clear hk2
            go_wp2_with fail
            refine (CW.out _ _ _ _).mono ?_
            rintro e wq ⟨rfl, hkq⟩
            have KQ := Lib.hid (K0.out.trans ((KA.out.trans AK2.out).trans hkq))
            have RQ := R0.out.keep ((KA.out.trans AK2.out).trans hkq)
            clear hkq
            have r0 := RQ.cells
            have rf := RQ.thawed
            go_wp2_with fail
            refine bodyPost_ret (v := wrVal ((partT, k, se) : WrV)) (by simp [results, Tryz.results6, go_sem, r0, wrVal, sizeT, bytesT, partsT, sharesT, spanT, partT, entryT, initsT, initT, startT, okW]; done) rfl ⟨?_, ?_⟩
            rotate_left
            · repeat (with_reducible refine Keep.setAt ?_ ?_ _; · first | omega | (simp; done) | (simp; omega))
              exact KQ.out
            rw [HW1.out, imgT1_some HH.out, HSE.out]
        · obtain rfl : k = i.parts.length := by omega
          have HS1 : Hid (firstE (partE i) i.parts.length 0 = none) := Lib.hid (by rw [HFI.out, Nat.sub_self]; rfl)
          have HW2 : Hid (imgW i = imgT2 i) := Lib.hid (by rw [HW1.out, imgT1_none HS1.out])
          clear HFI HS1 HW1
          have AK1 := Lib.hid AK.out
          obtain ⟨M, hMe⟩ : ∃ M, M = (entsI i).length := ⟨_, rfl⟩
          have HME := Lib.hid hMe
          have hM : M ≤ 840 := by rw [hMe]; exact ents_few HI.out.few
          clear hMe
          go_wp2_with fail
          go_loopw [6, 9] (fun nv x wr => ∃ k : Nat, k ≤ i.parts.length ∧ nv = .int .i64 ((entOff i.parts k : Nat) : Int) ∧ x = .int .i64 (k : Int) ∧ firstE (entE i) M 0 = firstE (entE i) (M - entOff i.parts k) (entOff i.parts k) ∧ Keep w1 wr) (fun _ x _ => i.parts.length - (intOf x).toNat)
          case atStart => exact ⟨0, Nat.zero_le _, by rw [entOff_zero]; rfl, rfl, by rw [entOff_zero]; rfl, AK1.out⟩
          case round =>
            obtain ⟨k, hk, rfl, rfl, hfi, hK⟩ := hrel
            have HFI := Lib.hid hfi
            have AK := Lib.hid hK
            have k0 : (0 : Int) ≤ (k : Int) := Int.natCast_nonneg _
            have c0 := (B0.out.keep (KA.out.trans hK)).cells
            clear hfi hK
            by_cases hlt : k < i.parts.length
            · have hki : (k : Int) < (i.parts.length : Int) := by omega
              obtain ⟨p, hp⟩ : ∃ p, i.parts[k]? = some p := ⟨_, List.getElem?_eq_getElem hlt⟩
              obtain ⟨ve, hve⟩ : ∃ ve, ves[k]? = some ve := ⟨_, List.getElem?_eq_getElem (by have := HI.out.at_.nves; omega)⟩
              have hmem := List.mem_of_getElem? hp
              obtain ⟨ep, ec, rfl, hec, _, hex⟩ := NumsAt.at (HI.out.at_.ents k p ve hp hve)
              have fe := HI.out.few.ents p hmem
              have HPS := Lib.hid (part_spans HI.out.num hp).1
              have HPE := Lib.hid (HI.out.num.ents p hmem)
              have hSUC := entOff_succ hp
              have hLT : ∀ j, j < p.entries.length → entOff i.parts k + j < M := fun j hj => by rw [HME.out]; exact entOff_lt hp hj
              have hEF : ∀ j e, p.entries[j]? = some e → entE i (entOff i.parts k + j) = entF (decide (e % 4 ≠ 0)) (withinS p.code e 1) (prevE p.entries j e) := fun j e he => entE_F hp he
              obtain ⟨L, hL⟩ : ∃ L, entOff i.parts k = L := ⟨_, rfl⟩
              rw [hL] at hSUC hLT hEF HFI ⊢
              have HSUC := Lib.hid hSUC
              have HEF := Lib.hid hEF
              have HEX := Lib.hid hex
              have kw : Keep w wr := K0.out.trans (KA.out.trans AK.out)
              have KW := Lib.hid kw
              obtain ⟨q0, q1, q2, q3, q4, q5, q6, q7⟩ := HPX.out k p _ hp hve
              have n0 := kw.cellOf q0
              have n1 := kw.cellOf q1
              have n2 := kw.cellOf q2
              have n3 := kw.cellOf q3
              have n4 := kw.cellOf q4
              have n5 := kw.cellOf q5
              have n6 := kw.cellOf q6
              have n7 := kw.cellOf q7
              have BP := Lib.hid (Box.new wr #[.string p.name, .int .u32 p.code.at_, .int .u32 p.code.size, .int .u32 p.data.at_, .int .u32 p.data.size, .int .u32 p.stack.at_, .int .u32 p.stack.size, .slice ep p.entries.length ec] 65)
              have AKP := Lib.hid (AK.out.alloc (.cells #[.string p.name, .int .u32 p.code.at_, .int .u32 p.code.size, .int .u32 p.data.at_, .int .u32 p.data.size, .int .u32 p.stack.at_, .int .u32 p.stack.size, .slice ep p.entries.length ec] 65))
              have pbl : pb < wr.heap.size := Nat.lt_of_lt_of_le HPB.out kw.size
              clear hp hve hmem hSUC hEF hex kw q0 q1 q2 q3 q4 q5 q6 q7 hL
              go_wp2_with fail
              go_loopw [6, 11] (fun nv x wr2 => ∃ j : Nat, j ≤ p.entries.length ∧ nv = .int .i64 ((L + j : Nat) : Int) ∧ x = .int .i64 (j : Int) ∧ firstE (entE i) M 0 = firstE (entE i) (M - (L + j)) (L + j) ∧ Box wr2 wr.heap.size #[.string p.name, .int .u32 p.code.at_, .int .u32 p.code.size, .int .u32 p.data.at_, .int .u32 p.data.size, .int .u32 p.stack.at_, .int .u32 p.stack.size, .slice ep p.entries.length ec] ∧ Keep w1 wr2) (fun _ x _ => p.entries.length - (intOf x).toNat)
              case atStart => exact ⟨0, Nat.zero_le _, rfl, rfl, HFI.out, BP.out, AKP.out⟩
              case round =>
                obtain ⟨j, hj, rfl, rfl, hf2, hB, hK⟩ := hrel
                have HF2 := Lib.hid hf2
                have HBX := Lib.hid hB
                have BK := Lib.hid hK
                have c1 := hB.cells
                have j0 : (0 : Int) ≤ (j : Int) := Int.natCast_nonneg _
                clear hf2 hB hK c0 n0 n1 n2 n3 n4 n5 n6 n7
                by_cases hje : j < p.entries.length
                · have hji : (j : Int) < (p.entries.length : Int) := by omega
                  obtain ⟨e, he⟩ : ∃ e, p.entries[j]? = some e := ⟨_, List.getElem?_eq_getElem hje⟩
                  have HVV := Lib.hid (HEF.out j e he)
                  have eN := HPE.out e (List.mem_of_getElem? he)
                  have HEN := Lib.hid eN
                  obtain ⟨ea0, ea1⟩ := eN
                  rcases HEX.out with hnil | ⟨eb, eo, rfl, hebl, hexx⟩
                  · rw [hnil] at hje; simp at hje
                  have X0 := Lib.hid ((K0.out.trans KA.out).cellOf (hexx j e he))
                  have x0 := BK.out.cellOf X0.out
                  have HXX := Lib.hid (fun m y (hy : p.entries[m]? = some y) => (K0.out.trans KA.out).cellOf (hexx m y hy))
                  have ebl : eb < wr.heap.size := Nat.lt_of_lt_of_le hebl (K0.out.trans (KA.out.trans BK.out)).size
                  clear he hexx
                  rcases Bool.eq_false_or_eq_true (e % 4 == 0) with e1 | e1
                  rotate_left
                  · have e2 : (e % 4 != 0) = true := by rw [bne, e1]; rfl
                    have HV : Hid (entE i (L + j) = 5) := Lib.hid (by rw [HVV.out, decide_eq_true (p := e % 4 ≠ 0) (beq_eq_false_iff_ne.1 e1)]; rfl)
                    have HH := Lib.hid (HF2.out.trans (first_hit (hLT j hje) (by rw [HV.out]; decide)))
                    go_wp2_with fail
                    refine (CW.out _ _ _ _).mono ?_
                    rintro e wq ⟨rfl, hkq⟩
                    have KQ := Lib.hid (K0.out.trans ((KA.out.trans BK.out).trans hkq))
                    have RQ := R0.out.keep ((KA.out.trans BK.out).trans hkq)
                    clear hkq
                    have r0 := RQ.cells
                    have rf := RQ.thawed
                    go_wp2_with fail
                    refine bodyPost_ret (v := wrVal ((entryT, ((L + j : Nat) : Int), 5) : WrV)) (by simp [results, Tryz.results6, go_sem, r0, wrVal, sizeT, bytesT, partsT, sharesT, spanT, partT, entryT, initsT, initT, startT, okW]; done) rfl ⟨?_, ?_⟩
                    rotate_left
                    · repeat (with_reducible refine Keep.setAt ?_ ?_ _; · first | omega | (simp; done) | (simp; omega))
                      exact KQ.out
                    rw [HW2.out, imgT2_some (by rw [← HME.out]; exact HH.out), HV.out]
                  have e2 : (e % 4 != 0) = false := by rw [bne, e1]; rfl
                  have HEA : Hid (decide (e % 4 ≠ 0) = false) := Lib.hid (decide_eq_false (fun x => x (beq_iff_eq.1 e1)))
                  have CWI := Lib.hid (fun W => rwithin_any p.code e 1 HPS.out HEN.out ⟨by decide, by decide⟩ W)
                  unfold spanVal at CWI
                  cases hwi : withinS p.code e 1 with
                  | false =>
                    rw [hwi] at CWI
                    have HV : Hid (entE i (L + j) = 6) := Lib.hid (by rw [HVV.out, HEA.out, hwi]; rfl)
                    have HH := Lib.hid (HF2.out.trans (first_hit (hLT j hje) (by rw [HV.out]; decide)))
                    clear hwi
                    go_wp2_with fail
                    refine region_grows (Keep _) (by kernel_rfl) (by kernel_rfl) (Keep.refl _).drew ?_
                    repeat (first
                      | (apply text_pass (by rfl); go_simp)
                      | (apply text_step (by rfl)
                         · intro W hW
                           have c1 := (HBX.out.keep hW).cells
                           have x0 := (BK.out.trans hW).cellOf X0.out
                           go_simp
                           first
                             | exact ⟨rfl, hW⟩
                             | (apply yes_enter; go_at_call 17; refine (CWI.out _).mono ?_; rintro e w' ⟨rfl, hk⟩; first | (subst hk; exact ⟨rfl, hW⟩) | exact ⟨rfl, hW.trans hk⟩)
                         go_simp))
                    apply text_end
                    intro WS hWS
                    have AK3 := Lib.hid (BK.out.trans hWS)
                    clear hWS c1 x0
                    go_wp2_with fail
                    refine (CW.out _ _ _ _).mono ?_
                    rintro e wq ⟨rfl, hkq⟩
                    have KQ := Lib.hid (K0.out.trans ((KA.out.trans AK3.out).trans hkq))
                    have RQ := R0.out.keep ((KA.out.trans AK3.out).trans hkq)
                    clear hkq
                    have r0 := RQ.cells
                    have rf := RQ.thawed
                    go_wp2_with fail
                    refine bodyPost_ret (v := wrVal ((entryT, ((L + j : Nat) : Int), 6) : WrV)) (by simp [results, Tryz.results6, go_sem, r0, wrVal, sizeT, bytesT, partsT, sharesT, spanT, partT, entryT, initsT, initT, startT, okW]; done) rfl ⟨?_, ?_⟩
                    rotate_left
                    · repeat (with_reducible refine Keep.setAt ?_ ?_ _; · first | omega | (simp; done) | (simp; omega))
                      exact KQ.out
                    rw [HW2.out, imgT2_some (by rw [← HME.out]; exact HH.out), HV.out]
                  | true =>
                    rw [hwi] at CWI
                    have HWI := Lib.hid hwi
                    clear hwi
                    go_wp2_with fail
                    refine region_grows (Keep _) (by kernel_rfl) (by kernel_rfl) (Keep.refl _).drew ?_
                    repeat (first
                      | (apply text_pass (by rfl); go_simp)
                      | (apply text_step (by rfl)
                         · intro W hW
                           have c1 := (HBX.out.keep hW).cells
                           have x0 := (BK.out.trans hW).cellOf X0.out
                           go_simp
                           first
                             | exact ⟨rfl, hW⟩
                             | (apply yes_enter; go_at_call 17; refine (CWI.out _).mono ?_; rintro e w' ⟨rfl, hk⟩; first | (subst hk; exact ⟨rfl, hW⟩) | exact ⟨rfl, hW.trans hk⟩)
                         go_simp))
                    apply text_end
                    intro WS hWS
                    have AK4 := Lib.hid (BK.out.trans hWS)
                    have BX4 := Lib.hid (HBX.out.keep hWS)
                    clear hWS c1 x0
                    have c4 := BX4.out.cells
                    have x4 := AK4.out.cellOf X0.out
                    cases j with
                    | zero =>
                      have HV : Hid (entE i (L + 0) = 0) := Lib.hid (by rw [HVV.out, HEA.out, HWI.out]; rfl)
                      go_wp2_with fail
                      refine region_grows (Keep _) (by kernel_rfl) (by kernel_rfl) (Keep.refl _).drew ?_
                      repeat (first
                        | (apply text_pass (by rfl); go_simp)
                        | (apply text_step (by rfl)
                           · intro W hW
                             have c4 := (BX4.out.keep hW).cells
                             have x4 := (AK4.out.trans hW).cellOf X0.out
                             go_simp
                             first
                               | exact ⟨rfl, hW⟩
                           go_simp))
                      apply text_end
                      intro WS hWS
                      have AK5 := Lib.hid (AK4.out.trans hWS)
                      have BX5 := Lib.hid (BX4.out.keep hWS)
                      clear hWS c4 x4
                      have HN4 := Lib.hid (HF2.out.trans (first_go (hLT 0 hje) HV.out))
                      go_wp2_with fail
                      go_roundw
                      case rel => exact ⟨0 + 1, hje, by (have hb := hLT 0 hje; rw [IntWalk.wrap64_in _ ⟨by omega, by omega⟩]; first | rfl | (congr 1; omega)), by first | go_num | (simp; done) | (simp; omega), HN4.out, BX5.out, AK5.out⟩
                      case measure => simp [intOf]; omega
                    | succ h =>
                      obtain ⟨d, hd⟩ : ∃ d, p.entries[h]? = some d := ⟨_, List.getElem?_eq_getElem (by omega)⟩
                      have x5 := AK4.out.cellOf (HXX.out h d hd)
                      have X5 := Lib.hid (HXX.out h d hd)
                      have hhi : (h : Int) < (p.entries.length : Int) := by omega
                      have h0p : decide ((0 : Int) < ((h + 1 : Nat) : Int)) = true := decide_eq_true (by omega)
                      have h0i : (0 : Int) ≤ (h : Int) := Int.natCast_nonneg _
                      have hh1 : (h : Int) + 1 < (p.entries.length : Int) := by omega
                      have hh2 : (0 : Int) ≤ (h : Int) + 1 := by omega
                      have hh3 : ((h : Int) + 1).toNat = h + 1 := by omega
                      have wj1 : IntKind.i64.wrap ((h : Int) + 1) = (h : Int) + 1 := IntWalk.i64_in _ (by omega)
                      have wj2 : IntKind.i64.wrap (h : Int) = (h : Int) := IntWalk.i64_in _ (by omega)
                      have HPV : Hid (prevE p.entries (h + 1) e = decide (e ≤ d)) := Lib.hid (by rw [show prevE p.entries (h + 1) e = (match p.entries[h]? with | none => false | some d => decide (e ≤ d)) from rfl, hd])
                      clear hd
                      by_cases hed : e ≤ d
                      · have hed' : decide (e ≤ d) = true := decide_eq_true hed
                        have HV : Hid (entE i (L + (h + 1)) = 13) := Lib.hid (by rw [HVV.out, HEA.out, HWI.out, HPV.out, hed']; rfl)
                        have HH := Lib.hid (HF2.out.trans (first_hit (hLT (h + 1) hje) (by rw [HV.out]; decide)))
                        go_wp2_with fail
                        refine region_grows (Keep _) (by kernel_rfl) (by kernel_rfl) (Keep.refl _).drew ?_
                        repeat (first
                          | (apply text_pass (by rfl); go_simp)
                          | (apply text_step (by rfl)
                             · intro W hW
                               have c4 := (BX4.out.keep hW).cells
                               have x4 := (AK4.out.trans hW).cellOf X0.out
                               have x5 := (AK4.out.trans hW).cellOf X5.out
                               go_simp
                               first
                                 | exact ⟨rfl, hW⟩
                             go_simp))
                        apply text_end
                        intro WS hWS
                        have AK3 := Lib.hid (AK4.out.trans hWS)
                        clear hWS c4 x4 x5
                        go_wp2_with fail
                        refine (CW.out _ _ _ _).mono ?_
                        rintro e wq ⟨rfl, hkq⟩
                        have KQ := Lib.hid (K0.out.trans ((KA.out.trans AK3.out).trans hkq))
                        have RQ := R0.out.keep ((KA.out.trans AK3.out).trans hkq)
                        clear hkq
                        have r0 := RQ.cells
                        have rf := RQ.thawed
                        go_wp2_with fail
                        refine bodyPost_ret (v := wrVal ((entryT, ((L + (h + 1) : Nat) : Int), 13) : WrV)) (by simp [results, Tryz.results6, go_sem, r0, wrVal, sizeT, bytesT, partsT, sharesT, spanT, partT, entryT, initsT, initT, startT, okW]; done) rfl ⟨?_, ?_⟩
                        rotate_left
                        · repeat (with_reducible refine Keep.setAt ?_ ?_ _; · first | omega | (simp; done) | (simp; omega))
                          exact KQ.out
                        rw [HW2.out, imgT2_some (by rw [← HME.out]; exact HH.out), HV.out]
                      · have hed' : decide (e ≤ d) = false := decide_eq_false hed
                        have HV : Hid (entE i (L + (h + 1)) = 0) := Lib.hid (by rw [HVV.out, HEA.out, HWI.out, HPV.out, hed']; rfl)
                        go_wp2_with fail
                        refine region_grows (Keep _) (by kernel_rfl) (by kernel_rfl) (Keep.refl _).drew ?_
                        repeat (first
                          | (apply text_pass (by rfl); go_simp)
                          | (apply text_step (by rfl)
                             · intro W hW
                               have c4 := (BX4.out.keep hW).cells
                               have x4 := (AK4.out.trans hW).cellOf X0.out
                               have x5 := (AK4.out.trans hW).cellOf X5.out
                               go_simp
                               first
                                 | exact ⟨rfl, hW⟩
                             go_simp))
                        apply text_end
                        intro WS hWS
                        have AK5 := Lib.hid (AK4.out.trans hWS)
                        have BX5 := Lib.hid (BX4.out.keep hWS)
                        clear hWS c4 x4 x5
                        have HN4 := Lib.hid (HF2.out.trans (first_go (hLT (h + 1) hje) HV.out))
                        go_wp2_with fail
                        go_roundw
                        case rel => exact ⟨h + 1 + 1, hje, by (have hb := hLT (h + 1) hje; rw [IntWalk.wrap64_in _ ⟨by omega, by omega⟩]; first | rfl | (congr 1; omega)), by first | go_num | (simp; done) | (simp; omega), HN4.out, BX5.out, AK5.out⟩
                        case measure => simp [intOf]; omega
                · obtain rfl : j = p.entries.length := by omega
                  go_wp2_with fail
                  go_roundw
                  case rel => exact ⟨k + 1, hlt, by rw [HSUC.out], by go_num, by rw [HSUC.out]; exact HF2.out, BK.out⟩
                  case measure => simp [intOf]; omega
            · obtain rfl : k = i.parts.length := by omega
              have HS2 : Hid (firstE (entE i) (entsI i).length 0 = none) := Lib.hid (by rw [← HME.out, HFI.out, entOff_end, ← HME.out, Nat.sub_self]; rfl)
              have HW3 : Hid (imgW i = imgT3 i) := Lib.hid (by rw [HW2.out, imgT2_none HS2.out])
              have di : decide ((512 : Int) < (i.inits.length : Int)) = false := decide_eq_false (by omega)
              have AK6 := Lib.hid AK.out
              clear HFI HS2 HW2
              go_wp2_with fail
              go_loopw [13] (fun x wr => ∃ k : Nat, k ≤ i.inits.length ∧ x = .int .i64 (k : Int) ∧ firstE (initE i) i.inits.length 0 = firstE (initE i) (i.inits.length - k) k ∧ Keep w1 wr) (fun x _ => i.inits.length - (intOf x).toNat)
              case atStart => exact ⟨0, Nat.zero_le _, rfl, rfl, AK6.out⟩
              case round =>
                obtain ⟨k, hk, rfl, hfi, hK⟩ := hrel
                have HFI := Lib.hid hfi
                have AK := Lib.hid hK
                have k0 : (0 : Int) ≤ (k : Int) := Int.natCast_nonneg _
                have c0 := (B0.out.keep (KA.out.trans hK)).cells
                clear hfi hK
                by_cases hlt : k < i.inits.length
                · have hki : (k : Int) < (i.inits.length : Int) := by omega
                  have CS := Lib.hid (rinit_any i _ _ _ _ ves k wr (HI.out.at_.keep (K0.out.trans (KA.out.trans AK.out))) HI.out.few HI.out.num hlt)
                  unfold imgVal at CS
                  obtain ⟨se, hse⟩ : ∃ se, initE i k = se := ⟨_, rfl⟩
                  rw [hse] at CS
                  have HSE := Lib.hid hse
                  clear hse
                  rcases Bool.eq_false_or_eq_true (se == 0) with z | z
                  · have z2 : (se != 0) = false := by rw [bne, z]; rfl
                    have HN2 := Lib.hid (HFI.out.trans (first_go hlt (by rw [HSE.out]; exact beq_iff_eq.1 z)))
                    go_wp2_with fail
                    refine CS.out.mono ?_
                    rintro e w2 ⟨rfl, hk2⟩
                    have AK2 := Lib.hid (AK.out.trans hk2)
                    clear hk2
                    go_wp2_with fail
                    go_roundw
                    case rel => exact ⟨k + 1, hlt, by go_num, HN2.out, AK2.out⟩
                    case measure => simp [intOf]; omega
                  · have z2 : (se != 0) = true := by rw [bne, z]; rfl
                    have HH := Lib.hid (HFI.out.trans (first_hit hlt (by rw [HSE.out]; exact beq_eq_false_iff_ne.1 z)))
                    go_wp2_with fail
                    refine CS.out.mono ?_
                    rintro e w2 ⟨rfl, hk2⟩
                    have AK2 := Lib.hid (AK.out.trans hk2)
                    clear hk2
                    go_wp2_with fail
                    refine (CW.out _ _ _ _).mono ?_
                    rintro e wq ⟨rfl, hkq⟩
                    have KQ := Lib.hid (K0.out.trans ((KA.out.trans AK2.out).trans hkq))
                    have RQ := R0.out.keep ((KA.out.trans AK2.out).trans hkq)
                    clear hkq
                    have r0 := RQ.cells
                    have rf := RQ.thawed
                    go_wp2_with fail
                    refine bodyPost_ret (v := wrVal ((initT, k, se) : WrV)) (by simp [results, Tryz.results6, go_sem, r0, wrVal, sizeT, bytesT, partsT, sharesT, spanT, partT, entryT, initsT, initT, startT, okW]; done) rfl ⟨?_, ?_⟩
                    rotate_left
                    · repeat (with_reducible refine Keep.setAt ?_ ?_ _; · first | omega | (simp; done) | (simp; omega))
                      exact KQ.out
                    rw [HW3.out, imgT3_some HH.out, HSE.out]
                · obtain rfl : k = i.inits.length := by omega
                  have HS3 : Hid (firstE (initE i) i.inits.length 0 = none) := Lib.hid (by rw [HFI.out, Nat.sub_self]; rfl)
                  have HW4 : Hid (imgW i = imgT4 i) := Lib.hid (by rw [HW3.out, imgT3_none HS3.out])
                  clear HFI HS3 HW3
                  by_cases s0 : i.start < 0
                  · have s0' : decide (i.start < 0) = true := decide_eq_true s0
                    have HV : Hid (imgT4 i = (startT, i.start, 6)) := Lib.hid (by unfold imgT4; rw [if_pos (.inl s0)])
                    go_wp2_with fail
                    refine (CW.out _ _ _ _).mono ?_
                    rintro e wq ⟨rfl, hkq⟩
                    have KQ := Lib.hid (K0.out.trans ((KA.out.trans AK.out).trans hkq))
                    have RQ := R0.out.keep ((KA.out.trans AK.out).trans hkq)
                    clear hkq
                    have r0 := RQ.cells
                    have rf := RQ.thawed
                    go_wp2_with fail
                    refine bodyPost_ret (v := wrVal ((startT, i.start, 6) : WrV)) (by simp [results, Tryz.results6, go_sem, r0, wrVal, sizeT, bytesT, partsT, sharesT, spanT, partT, entryT, initsT, initT, startT, okW]; done) rfl ⟨?_, ?_⟩
                    rotate_left
                    · repeat (with_reducible refine Keep.setAt ?_ ?_ _; · first | omega | (simp; done) | (simp; omega))
                      exact KQ.out
                    rw [HW4.out, HV.out]
                  have s0' : decide (i.start < 0) = false := decide_eq_false s0
                  by_cases s1 : (i.parts.length : Int) ≤ i.start
                  · have s1' : decide ((i.parts.length : Int) ≤ i.start) = true := decide_eq_true s1
                    have HV : Hid (imgT4 i = (startT, i.start, 6)) := Lib.hid (by unfold imgT4; rw [if_pos (.inr s1)])
                    go_wp2_with fail
                    refine (CW.out _ _ _ _).mono ?_
                    rintro e wq ⟨rfl, hkq⟩
                    have KQ := Lib.hid (K0.out.trans ((KA.out.trans AK.out).trans hkq))
                    have RQ := R0.out.keep ((KA.out.trans AK.out).trans hkq)
                    clear hkq
                    have r0 := RQ.cells
                    have rf := RQ.thawed
                    go_wp2_with fail
                    refine bodyPost_ret (v := wrVal ((startT, i.start, 6) : WrV)) (by simp [results, Tryz.results6, go_sem, r0, wrVal, sizeT, bytesT, partsT, sharesT, spanT, partT, entryT, initsT, initT, startT, okW]; done) rfl ⟨?_, ?_⟩
                    rotate_left
                    · repeat (with_reducible refine Keep.setAt ?_ ?_ _; · first | omega | (simp; done) | (simp; omega))
                      exact KQ.out
                    rw [HW4.out, HV.out]
                  have s1' : decide ((i.parts.length : Int) ≤ i.start) = false := decide_eq_false s1
                  have s2 : 0 ≤ i.start := by omega
                  have s3 : i.start < (i.parts.length : Int) := by omega
                  have s4 : i.start.toNat < i.parts.length := by omega
                  obtain ⟨p, hp⟩ : ∃ p, i.parts[i.start.toNat]? = some p := ⟨_, List.getElem?_eq_getElem s4⟩
                  obtain ⟨ve, hve⟩ : ∃ ve, ves[i.start.toNat]? = some ve := ⟨_, List.getElem?_eq_getElem (by have := HI.out.at_.nves; omega)⟩
                  obtain ⟨ep, ec, rfl, hec, _, _⟩ := NumsAt.at (HI.out.at_.ents _ p ve hp hve)
                  have fe := HI.out.few.ents p (List.mem_of_getElem? hp)
                  have CA := Lib.hid (fun W (hW : Keep w W) => ramong_any _ p.entries i.addr W (SlAt.keep (HI.out.at_.ents _ p _ hp hve) hW) (by omega))
                  have N7 := Lib.hid ((K0.out.trans (KA.out.trans AK.out)).cellOf (HPX.out _ p _ hp hve).2.2.2.2.2.2.2)
                  have H4 : Hid (imgT4 i = if amongI p.entries i.addr = false then (startT, i.start, 12) else okW) := Lib.hid (by unfold imgT4; rw [if_neg (by omega), hp])
                  clear hp hve s0 s1
                  cases ha : amongI p.entries i.addr with
                  | false =>
                    rw [ha] at CA
                    have HV : Hid (imgT4 i = (startT, i.start, 12)) := Lib.hid (by rw [H4.out, if_pos ha])
                    clear ha
                    go_wp2_with fail
                    refine region_grows (Keep _) (by kernel_rfl) (by kernel_rfl) (Keep.refl _).drew ?_
                    repeat (first
                      | (apply text_pass (by rfl); go_simp)
                      | (apply text_step (by rfl)
                         · intro W hW
                           have c0 := (B0.out.keep ((KA.out.trans AK.out).trans hW)).cells
                           have n7 := hW.cellOf N7.out
                           go_simp
                           first
                             | exact ⟨rfl, hW⟩
                             | (apply yes_enter; go_at_call 19; refine (CA.out _ ((K0.out.trans (KA.out.trans AK.out)).trans hW)).mono ?_; rintro e w' ⟨rfl, hk⟩; first | (subst hk; exact ⟨rfl, hW⟩) | exact ⟨rfl, hW.trans hk⟩)
                         go_simp))
                    apply text_end
                    intro WS hWS
                    have AK3 := Lib.hid (AK.out.trans hWS)
                    clear hWS
                    have c0 := (B0.out.keep (KA.out.trans AK3.out)).cells
                    go_wp2_with fail
                    refine (CW.out _ _ _ _).mono ?_
                    rintro e wq ⟨rfl, hkq⟩
                    have KQ := Lib.hid (K0.out.trans ((KA.out.trans AK3.out).trans hkq))
                    have RQ := R0.out.keep ((KA.out.trans AK3.out).trans hkq)
                    clear hkq
                    have r0 := RQ.cells
                    have rf := RQ.thawed
                    go_wp2_with fail
                    refine bodyPost_ret (v := wrVal ((startT, i.start, 12) : WrV)) (by simp [results, Tryz.results6, go_sem, r0, wrVal, sizeT, bytesT, partsT, sharesT, spanT, partT, entryT, initsT, initT, startT, okW]; done) rfl ⟨?_, ?_⟩
                    rotate_left
                    · repeat (with_reducible refine Keep.setAt ?_ ?_ _; · first | omega | (simp; done) | (simp; omega))
                      exact KQ.out
                    rw [HW4.out, HV.out]
                  | true =>
                    rw [ha] at CA
                    have HV : Hid (imgT4 i = okW) := Lib.hid (by rw [H4.out, if_neg (by rw [ha]; decide)])
                    clear ha
                    go_wp2_with fail
                    refine region_grows (Keep _) (by kernel_rfl) (by kernel_rfl) (Keep.refl _).drew ?_
                    repeat (first
                      | (apply text_pass (by rfl); go_simp)
                      | (apply text_step (by rfl)
                         · intro W hW
                           have c0 := (B0.out.keep ((KA.out.trans AK.out).trans hW)).cells
                           have n7 := hW.cellOf N7.out
                           go_simp
                           first
                             | exact ⟨rfl, hW⟩
                             | (apply yes_enter; go_at_call 19; refine (CA.out _ ((K0.out.trans (KA.out.trans AK.out)).trans hW)).mono ?_; rintro e w' ⟨rfl, hk⟩; first | (subst hk; exact ⟨rfl, hW⟩) | exact ⟨rfl, hW.trans hk⟩)
                         go_simp))
                    apply text_end
                    intro WS hWS
                    have AK3 := Lib.hid (AK.out.trans hWS)
                    clear hWS
                    have KQ := Lib.hid (K0.out.trans (KA.out.trans AK3.out))
                    have RQ := R0.out.keep (KA.out.trans AK3.out)
                    have r0 := RQ.cells
                    have rf := RQ.thawed
                    go_wp2_with fail
                    refine bodyPost_ret (v := wrVal (okW : WrV)) (by simp [results, Tryz.results6, go_sem, r0, wrVal, sizeT, bytesT, partsT, sharesT, spanT, partT, entryT, initsT, initT, startT, okW]; done) rfl ⟨?_, ?_⟩
                    rotate_left
                    · repeat (with_reducible refine Keep.setAt ?_ ?_ _; · first | omega | (simp; done) | (simp; omega))
                      exact KQ.out
                    rw [HW4.out, HV.out]
theorem chkimg_any (i : ImgV) (vp vs vi vb : Value) (ves : List Value) (w : World) (h : ImgAt w i vp vs vi vb ves) (hf : ImgFew i) (hn : ImgNum i) :
    Calls Tryz.prog 6 #[imgVal i vp vs vi vb] w fun e w' => e = .returned (wrVal (imgW i)) ∧ Keep w w' := by
  obtain ⟨pp, pcap, rfl, _⟩ := h.parts
  obtain ⟨sp, scap, rfl, _⟩ := h.shares
  obtain ⟨ip, icap, rfl, _⟩ := h.inits
  obtain ⟨bp, bcap, rfl, _⟩ := h.bytes
  unfold imgVal
  have hI : ChkI i pp sp ip bp pcap scap icap bcap ves w := ⟨h, hf, hn⟩
  by_cases h0 : i.size < 16
  · exact chk_lo i pp sp ip bp pcap scap icap bcap ves w hI h0
  by_cases h0' : 65536 < i.size
  · exact chk_hi i pp sp ip bp pcap scap icap bcap ves w hI h0'
  have h1 : ¬ (i.size < 16 ∨ 65536 < i.size) := by omega
  by_cases h2 : i.size % 16 = 0
  rotate_left
  · exact chk_mod i pp sp ip bp pcap scap icap bcap ves w hI h1 h2
  by_cases h3 : (i.bytes.length : Int) > i.size
  · exact chk_bytes i pp sp ip bp pcap scap icap bcap ves w hI h1 h2 h3
  by_cases h4 : i.parts.length = 0
  · exact chk_none i pp sp ip bp pcap scap icap bcap ves w hI h1 h2 h3 h4
  by_cases h5 : i.parts.length > 8
  · exact chk_parts i pp sp ip bp pcap scap icap bcap ves w hI h1 h2 h3 h4 h5
  by_cases h6 : i.shares.length > 8
  · exact chk_shares i pp sp ip bp pcap scap icap bcap ves w hI h1 h2 h3 h4 h5 h6
  exact chk_main i pp sp ip bp pcap scap icap bcap ves w hI h1 h2 h3 h4 h5 h6
end Go.Proofs.YtmcbeclkocjlkaaGreatDoor
