/- The program's part, checkParts. -/
import Derived.Test.YtmcbeclkocjlkaaDoorGIpD
import Derived.Test.YtmcbeclkocjlkaaDoorGObjPA
import Derived.Test.YtmcbeclkocjlkaaDoorGPlainI
import Derived.Test.YtmcbeclkocjlkaaDoorGObjF
namespace Go.Proofs.YtmcbeclkocjlkaaDoor
set_option linter.unusedVariables false
set_option linter.unusedSimpArgs false
open Go Go.RowKit
theorem partE_at {i : ImgV} {k : Nat} {p : PartV} (h : i.parts[k]? = some p) : partE i k = if goodB p.name = false then 12 else if ((i.parts.take k).any fun q => decide (q.name = p.name)) = true then 13 else if p.code.size = 0 then 16 else if p.entries.length > 64 then 15 else 0 := by
  unfold partE; rw [h]
set_option maxHeartbeats 4000000 in
set_option maxRecDepth 100000 in
theorem icloQ_any (x p : PartV) (v : Value) (ep : Option Addr) (ec : Nat) (b : Nat) (w : World) (hB : Box w b #[.string p.name, .int .u32 p.code.at_, .int .u32 p.code.size, .int .u32 p.data.at_, .int .u32 p.data.size, .int .u32 p.stack.at_, .int .u32 p.stack.size, .slice ep p.entries.length ec]) :
    Calls Tryd.prog 63 #[.agg #[.string x.name, .int .u32 x.code.at_, .int .u32 x.code.size, .int .u32 x.data.at_, .int .u32 x.data.size, .int .u32 x.stack.at_, .int .u32 x.stack.size, v], .pointer (some ⟨b, 0, none⟩)] w fun e w' => e = .returned (.bool (decide (x.name = p.name))) ∧ Keep w w' := by
  rw [← ostr_beq]
  have cs := (hB.alloc (.cells #[.string x.name, .int .u32 x.code.at_, .int .u32 x.code.size, .int .u32 x.data.at_, .int .u32 x.data.size, .int .u32 x.stack.at_, .int .u32 x.stack.size, v] 39)).cells
  clear hB
  go_enter Tryd.func63, Tryd.ntmps63
  go_wp2_with fail
  go_ret
  exact ⟨rfl, (Keep.refl w).alloc _⟩
set_option maxHeartbeats 4000000 in
set_option maxRecDepth 100000 in
theorem ippart_any (i : ImgV) (vp vs vi vb : Value) (ves : List Value) (k : Nat) (w : World) (h : ImgAt w i vp vs vi vb ves) (hm : ImgMid i) (hk : k < i.parts.length) :
    Calls Tryd.prog 36 #[imgVal i vp vs vi vb, .int .i64 (k : Int)] w fun e w' => e = .returned (.int .i64 (partE i k)) ∧ Keep w w' := by
  have HO := Lib.hid h
  have nves := h.nves
  have fp := hm.parts
  obtain ⟨p, hp⟩ : ∃ p, i.parts[k]? = some p := ⟨_, List.getElem?_eq_getElem hk⟩
  obtain ⟨ve, hve⟩ : ∃ ve, ves[k]? = some ve := ⟨_, List.getElem?_eq_getElem (by omega)⟩
  have fe := hm.ents p (List.mem_of_getElem? hp)
  have fn := hm.names p (List.mem_of_getElem? hp)
  rw [partE_at hp]
  obtain ⟨ep, ec, hvf, _⟩ := h.ents k p ve hp hve
  subst hvf
  obtain ⟨pq, pc, rfl, hpc, hpm, hpp⟩ := h.partsAt
  rcases hpp with e | ⟨b, off, hq, hb, hcl⟩
  · rw [e] at hp; simp at hp
  have HCL := Lib.hid (hcl k p _ hp hve)
  have CG := Lib.hid (fun W => pname_any p.name (by omega) W)
  unfold imgVal
  obtain ⟨W0, hW0⟩ : ∃ W0, W0 = (w.alloc (.cells #[.int .u32 i.size, .slice pq i.parts.length pc, vs, vi, .int .i64 i.start, .int .u32 i.addr, vb] 28)).alloc (.cells #[.string p.name, .int .u32 p.code.at_, .int .u32 p.code.size, .int .u32 p.data.at_, .int .u32 p.data.size, .int .u32 p.stack.at_, .int .u32 p.stack.size, .slice ep p.entries.length ec] 39) := ⟨_, rfl⟩
  have K0 : Hid (Keep w W0) := Lib.hid (by rw [hW0]; exact ((Keep.refl _).alloc _).alloc _)
  have BI : Hid (Box W0 w.heap.size #[.int .u32 i.size, .slice pq i.parts.length pc, vs, vi, .int .i64 i.start, .int .u32 i.addr, vb]) := Lib.hid (by rw [hW0]; exact (Box.new _ _ _).alloc _)
  have BP : Hid (Box W0 (w.heap.size + 1) #[.string p.name, .int .u32 p.code.at_, .int .u32 p.code.size, .int .u32 p.data.at_, .int .u32 p.data.size, .int .u32 p.stack.at_, .int .u32 p.stack.size, .slice ep p.entries.length ec]) := Lib.hid (by rw [hW0]; exact Box.new1 _ _ _ _)
  have CC := Lib.hid (fun W (kw : Keep W0 W) => icontP_any i pq pc vs vi vb ves W (HO.out.keep (K0.out.trans kw)) k (by omega) (by omega) 63 (.pointer (some ⟨w.heap.size + 1, 0, none⟩)) (fun q => decide (q.name = p.name)) (enters_of Tryd.func63 (by kernel_rfl) rfl) (fun j x v _ _ W' kw' => icloQ_any x p v ep ec (w.heap.size + 1) W' ((BP.out.keep kw).keep kw')))
  obtain ⟨gd, hgd⟩ : ∃ gd, goodB p.name = gd := ⟨_, rfl⟩
  obtain ⟨tw, htw⟩ : ∃ tw, ((i.parts.take k).any fun q => decide (q.name = p.name)) = tw := ⟨_, rfl⟩
  rw [hgd] at CG ⊢
  rw [htw] at CC ⊢
  subst hq
  have hki : (k : Int) < (i.parts.length : Int) := by omega
  have k0 : (0 : Int) ≤ (k : Int) := Int.natCast_nonneg _
  have hkc : (k : Int) ≤ (pc : Int) := by omega
  have K1 : Keep w (w.alloc (.cells #[.int .u32 i.size, .slice (some ⟨b, off, none⟩) i.parts.length pc, vs, vi, .int .i64 i.start, .int .u32 i.addr, vb] 28)) := (Keep.refl _).alloc _
  have c0 := K1.cellOf HCL.out.1
  have c1 := K1.cellOf HCL.out.2.1
  have c2 := K1.cellOf HCL.out.2.2.1
  have c3 := K1.cellOf HCL.out.2.2.2.1
  have c4 := K1.cellOf HCL.out.2.2.2.2.1
  have c5 := K1.cellOf HCL.out.2.2.2.2.2.1
  have c6 := K1.cellOf HCL.out.2.2.2.2.2.2.1
  have c7 := K1.cellOf HCL.out.2.2.2.2.2.2.2
  obtain ⟨r, hr⟩ : ∃ r, r = (if gd = false then (12 : Int) else if tw = true then 13 else if p.code.size = 0 then 16 else if p.entries.length > 64 then 15 else 0) := ⟨_, rfl⟩
  rw [← hr]
  have HR := Lib.hid hr
  clear h hm hcl hp hve htw hgd K1 hr
  go_enter Tryd.func36, Tryd.ntmps36
  cases gd with
  | false =>
    obtain rfl : r = 12 := HR.out.trans (if_pos rfl)
    go_wp2_with ((with_reducible refine (CG.out _).mono ?_); rintro e w' ⟨rfl, rfl⟩)
    go_ret
    exact ⟨rfl, by first | exact K0.out | (rw [← hW0]; exact K0.out)⟩
  | true =>
    have HR2 := Lib.hid (HR.out.trans (if_neg (by decide)))
    clear HR
    go_wp2_with ((with_reducible refine (CG.out _).mono ?_); rintro e w' ⟨rfl, rfl⟩)
    rw [← hW0]
    clear hW0 c0 c1 c2 c3 c4 c5 c6 c7
    with_reducible refine (CC.out _ (Keep.refl _)).mono ?_
    rintro e w2 ⟨rfl, hk2⟩
    have HK2 := Lib.hid (K0.out.trans hk2)
    have bp := (BP.out.keep hk2).cells
    clear hk2 CC
    cases tw with
    | true =>
      obtain rfl : r = 13 := HR2.out.trans (if_pos rfl)
      go_wp2_with fail
      go_ret
      exact ⟨rfl, HK2.out⟩
    | false =>
      have HR3 := Lib.hid (HR2.out.trans (if_neg (by decide)))
      clear HR2
      by_cases z : p.code.size = 0
      · have z1 : (p.code.size == 0) = true := by simpa using z
        obtain rfl : r = 16 := HR3.out.trans (if_pos z)
        clear z HR3
        go_wp2_with fail
        go_ret
        exact ⟨rfl, HK2.out⟩
      · have z1 : (p.code.size == 0) = false := by simpa using z
        have HR4 := Lib.hid (HR3.out.trans (if_neg z))
        clear z HR3
        by_cases l : p.entries.length > 64
        · have l1 : decide ((64 : Int) < (p.entries.length : Int)) = true := decide_eq_true (by omega)
          obtain rfl : r = 15 := HR4.out.trans (if_pos l)
          clear l HR4
          go_wp2_with fail
          go_ret
          exact ⟨rfl, HK2.out⟩
        · have l1 : decide ((64 : Int) < (p.entries.length : Int)) = false := decide_eq_false (by omega)
          obtain rfl : r = 0 := HR4.out.trans (if_neg l)
          clear l HR4
          go_wp2_with fail
          go_ret
          exact ⟨rfl, HK2.out⟩
set_option maxHeartbeats 4000000 in
set_option maxRecDepth 100000 in
theorem icloParts_any (i : ImgV) (vp vs vi vb : Value) (ves : List Value) (b k : Nat) (w : World) (hB : Box w b #[.int .u32 i.size, vp, vs, vi, .int .i64 i.start, .int .u32 i.addr, vb]) (h : ImgAt w i vp vs vi vb ves) (hm : ImgMid i) (hk : k < i.parts.length) :
    Calls Tryd.prog 35 #[.int .i64 (k : Int), .pointer (some ⟨b, 0, none⟩)] w fun e w' => e = .returned (.int .i64 (partE i k)) ∧ Keep w w' := by
  have C := Lib.hid (ippart_any i vp vs vi vb ves k w h hm hk)
  unfold imgVal at C
  have c0 := hB.cells
  clear h hm hk hB
  go_enter Tryd.func35, Tryd.ntmps35
  go_wp2_with fail
  refine C.out.mono ?_
  rintro e w1 ⟨rfl, hk⟩
  have HK := Lib.hid hk
  clear hk
  go_wp2_with fail
  go_ret
  exact ⟨rfl, HK.out⟩
set_option maxHeartbeats 4000000 in
set_option maxRecDepth 100000 in
theorem icheckParts_any (i : ImgV) (vp vs vi vb : Value) (ves : List Value) (w : World) (h : ImgAt w i vp vs vi vb ves) (hm : ImgMid i) :
    Calls Tryd.prog 15 #[imgVal i vp vs vi vb] w (IChk w (fstW partT i.parts.length (partE i))) := by
  have HO := Lib.hid h
  obtain ⟨pq, pc, rfl, _, _, _⟩ := h.partsAt
  have few := hm.parts
  unfold imgVal
  have K0 : Hid (Keep w (w.alloc (.cells #[.int .u32 i.size, .slice pq i.parts.length pc, vs, vi, .int .i64 i.start, .int .u32 i.addr, vb] 28))) := Lib.hid ((Keep.refl _).alloc _)
  have B1 : Hid (Box (w.alloc (.cells #[.int .u32 i.size, .slice pq i.parts.length pc, vs, vi, .int .i64 i.start, .int .u32 i.addr, vb] 28)) w.heap.size #[.int .u32 i.size, .slice pq i.parts.length pc, vs, vi, .int .i64 i.start, .int .u32 i.addr, vb]) := Lib.hid (Box.new _ _ _)
  have CL := Lib.hid (ieach1_any partT i.parts.length (by omega) 35 (.pointer (some ⟨w.heap.size, 0, none⟩)) (partE i) _ (enters_of Tryd.func35 (by kernel_rfl) rfl) (fun k W hk kw => icloParts_any i _ _ _ _ ves w.heap.size k W (B1.out.keep kw) (HO.out.keep (K0.out.trans kw)) hm hk))
  clear h hm
  go_enter Tryd.func15, Tryd.ntmps15
  go_wp2_with fail
  refine CL.out.mono ?_
  rintro e w1 ⟨v, rfl, hv, hk⟩
  have HV := Lib.hid hv
  have HK := Lib.hid (K0.out.trans hk)
  clear hv hk CL
  go_wp2_with fail
  go_ret
  exact ⟨v, rfl, HV.out, HK.out⟩
end Go.Proofs.YtmcbeclkocjlkaaDoor
