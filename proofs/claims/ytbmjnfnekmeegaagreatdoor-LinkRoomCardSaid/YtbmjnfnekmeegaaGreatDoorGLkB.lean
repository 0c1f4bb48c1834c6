/- LkExp, LkName, LkCnt, LkCal, LkRel, LkSym: The linker's exports: what an object exports, rising, each once. -/
import Derived.Test.YtbmjnfnekmeegaaGreatDoorGLkA
import Derived.Test.YtbmjnfnekmeegaaGreatDoorGPlainM
import Derived.Test.YtbmjnfnekmeegaaGreatDoorGLnkA
import Derived.Test.YtbmjnfnekmeegaaGreatDoorGObjF
import Derived.Test.YtbmjnfnekmeegaaGreatDoorRowOf
import Derived.Test.YtbmjnfnekmeegaaGreatDoorSrtE
import Derived.Test.YtbmjnfnekmeegaaGreatDoorSrtF
import Derived.Laws.AppendOwn
import Derived.Test.YtbmjnfnekmeegaaGreatDoorGObjPA
import Derived.Test.YtbmjnfnekmeegaaGreatDoorManPCall
import Derived.Test.YtbmjnfnekmeegaaGreatDoorImgAt
/- The linker's exports: what an object exports, rising, each once. -/
namespace Go.Proofs.YtbmjnfnekmeegaaGreatDoor
set_option linter.unusedVariables false
set_option linter.unusedSimpArgs false
open Go Go.RowKit
/-- What a sort leaves: its row, and all else. -/
theorem putRow_but {α : Type} [Inhabited α] (enc : α → Value) (w : World) (n blk off : Nat) (d : Array α) (os : Array Obj) (hb : blk < w.heap.size) : KeepBut (fun z => z = blk) w (Sort.grow (Sort.putRow enc (Sort.ahead w n) blk off d) os) := by
  refine ⟨rfl, rfl, rfl, by simp, fun k hk hs => ?_⟩
  rw [Sort.heap_grow_old _ _ (by simpa using hk)]
  show (w.heap.modify blk _)[k]? = w.heap[k]?
  rw [Array.getElem?_modify, if_neg (fun e => hs e.symm)]
theorem holds_own {w : World} {base : Nat} {v : Value} {e : TypeId} {zs : List Int} (h : w.ownsRow base e 1 v zs.length (zs.map (Value.int .u32))) (h0 : zs ≠ []) : ∃ g cap, v = .slice (some ⟨g, 0, none⟩) zs.length cap ∧ base ≤ g ∧ g < w.heap.size ∧ zs.length ≤ cap ∧ cap ≤ maxLen ∧ Sort.Holds (Value.int .u32) w g 0 zs.toArray := by
  obtain ⟨hl, ⟨rfl, h2⟩ | ⟨g, cap, cur, rfl, hb, hg, hn, hm, hs, ht⟩⟩ := h
  · exact absurd (List.eq_nil_of_length_eq_zero h2) h0
  · have B : Box w g cur := ⟨e, hg⟩
    refine ⟨g, cap, rfl, hb, B.lt, hn, hm, fun j hj => ⟨?_, B.thawed _⟩⟩
    have hj' : j < zs.length := by simpa using hj
    rw [Nat.zero_add, B.cells, getElem!_pos zs.toArray j hj]
    have hx : (zs.map (Value.int .u32))[j]? = some (.int .u32 zs[j]) := by simp [hj']
    rw [← ht, List.getElem?_take] at hx
    split at hx
    · rw [← Array.getElem?_toList, hx]; simp
    · cases hx
theorem lkcompact_none (p : Option Addr) (cap : Nat) (w : World) : Calls Tryz.prog 123 #[.slice p 0 cap] w fun e w' => e = .returned (.slice p 0 cap) ∧ Keep w w' := by
  go_enter Tryz.func123, Tryz.ntmps123
  go_wp2_with fail
  go_ret
  exact ⟨rfl, Keep.refl _⟩
/-- Sorted, each once. -/
theorem lksorted_any (zs : List Int) (v : Value) (base : Nat) (w0 w : World) (hk : Keep w0 w) (hb : w0.heap.size ≤ base) (h : w.ownsRow base 31 1 v zs.length (zs.map (Value.int .u32))) (few : zs.length ≤ 1000000) :
    (zs = [] ∧ ∃ p cap, v = .slice p 0 cap ∧ cap ≤ maxLen ∧ Calls Tryz.prog 122 #[v] w fun e w' => e = .returned (.tuple #[]) ∧ w' = w) ∨
    (zs ≠ [] ∧ ∃ g cap, v = .slice (some ⟨g, 0, none⟩) zs.length cap ∧ zs.length ≤ cap ∧ cap ≤ maxLen ∧ Calls Tryz.prog 122 #[v] w fun e w' => e = .returned (.tuple #[]) ∧ Keep w0 w' ∧ w0.heap.size ≤ g ∧ g < w'.heap.size ∧ Sort.Holds (Value.int .u32) w' g 0 (sortI zs).toArray) := by
  by_cases h0 : zs = []
  · subst h0
    left
    refine ⟨rfl, ?_⟩
    obtain ⟨_, ⟨rfl, _⟩ | ⟨g, cap, cur, rfl, _, _, _, hm, _⟩⟩ := h
    · exact ⟨none, 0, rfl, Nat.zero_le _, srt_Sort_nil none 0 w⟩
    · exact ⟨_, cap, rfl, hm, srt_Sort_nil _ cap w⟩
  · right
    obtain ⟨g, cap, rfl, hg, hlt, hc, hm, hH⟩ := holds_own h h0
    refine ⟨h0, g, cap, rfl, hc, hm, ?_⟩
    refine (srt_slices_Sort g 0 cap zs w hH hlt (by omega)).mono ?_
    rintro e w' ⟨rfl, n, os, rfl⟩
    have K := putRow_but (Value.int .u32) w n g 0 (sortI zs).toArray os hlt
    have K0 : Keep w0 _ := hk.butNew K (fun x hx => by rw [hx]; omega)
    refine ⟨rfl, K0, by omega, Nat.lt_of_lt_of_le hlt K.size, ?_⟩
    refine Sort.holds_grow _ _ _ _ _ _ (by simpa using hlt) ?_
    exact Sort.holds_putRow _ _ _ _ zs.toArray _ (Sort.holds_ahead _ _ _ _ _ _ hH) (by simp [sortI_length])
theorem infoE32 : (Tryz.prog.info? 31).map (fun i => (i.zero, i.size, i.bytes)) = some (some (.int .u32 0), 1, 4) := by kernel_rfl
theorem offsS_take {l : List SymV} {k : Nat} {s : SymV} (h : l[k]? = some s) : offsS (l.take (k + 1)) = offsS (l.take k) ++ (if s.exp = true then [s.off] else []) := by
  obtain ⟨hk, rfl⟩ := List.getElem?_eq_some_iff.1 h
  unfold offsS
  rw [List.take_succ_eq_append_getElem hk, List.filter_append, List.map_append]
  congr 1
  by_cases he : l[k].exp = true <;> simp [he]
set_option maxHeartbeats 4000000 in
set_option maxRecDepth 100000 in
theorem lkexports_any (o : ObjV) (vc vd vs vr : Value) (w : World) (h : ObjAt w o vc vd vs vr) (hn : ∀ s ∈ o.syms, 0 ≤ s.off ∧ s.off < 4294967296) (few : o.syms.length ≤ 1000) :
    Calls Tryz.prog 73 #[objVal o vc vd vs vr] w fun e w' => ∃ v, e = .returned v ∧ RowOf w.heap.size w'.heap.size w' v (placesL o).length ((placesL o).map (Value.int .u32)) ∧ Keep w w' := by
  obtain ⟨p, cap, rfl, hcap, hx⟩ := h.symsAt
  have PL := Lib.hid (places_sort o hn)
  unfold objVal
  clear h hn
  have HX := Lib.hid hx
  clear hx
  obtain ⟨i0, hi0, hz0, hz1, hz2⟩ := oinfo_parts infoE32
  obtain ⟨W0, hW0⟩ : ∃ W0, W0 = w.alloc (.cells #[.string o.name, vc, vd, .slice p o.syms.length cap, vr] 76) := ⟨_, rfl⟩
  have K0 : Hid (Keep w W0) := Lib.hid (by rw [hW0]; exact (Keep.refl _).alloc _)
  have sz0 : Hid (W0.heap.size = w.heap.size + 1) := Lib.hid (by rw [hW0]; simp)
  go_enter Tryz.func73, Tryz.ntmps73
  go_wp2_with fail
  rw [← hW0]
  clear hW0
  go_loopw [3, 5, 9] (fun vo _ i wr => ∃ k : Nat, k ≤ o.syms.length ∧ i = .int .i64 (k : Int) ∧ Keep W0 wr ∧ wr.ownsRow W0.heap.size 31 1 vo (offsS (o.syms.take k)).length ((offsS (o.syms.take k)).map (Value.int .u32))) (fun _ _ i _ => o.syms.length - (intOf i).toNat)
  case atStart => exact ⟨0, Nat.zero_le _, rfl, Keep.refl _, ⟨by simp [offsS], .inl ⟨rfl, by simp [offsS]⟩⟩⟩
  case round =>
    obtain ⟨k, hk, rfl, hK, hO⟩ := hrel
    have HK := Lib.hid hK
    have HO := Lib.hid hO
    have hlen : (offsS (o.syms.take k)).length ≤ 1000 := by
      have := offsS_length (o.syms.take k)
      rw [List.length_take] at this
      omega
    clear hK hO
    by_cases hlt : k < o.syms.length
    · obtain ⟨x, hx⟩ : ∃ x, o.syms[k]? = some x := ⟨_, List.getElem?_eq_getElem hlt⟩
      have HT := Lib.hid (offsS_take hx)
      have hki : (k : Int) < (o.syms.length : Int) := by omega
      obtain ⟨b, off, rfl, hb, hxx⟩ := HX.out.resolve_left (fun e => by rw [e] at hx; simp at hx)
      obtain ⟨n0, n1, n2, n3⟩ := hxx k x hx
      have KR := Lib.hid (K0.out.trans HK.out)
      replace n0 := KR.out.cellOf n0
      replace n1 := KR.out.cellOf n1
      replace n2 := KR.out.cellOf n2
      replace n3 := KR.out.cellOf n3
      have r0 := (Box.new wr #[.string x.name, .bool x.data, .int .u32 x.off, .bool x.exp] 88).cells
      clear hx hxx
      obtain ⟨xe, hxe⟩ : ∃ xe, x.exp = xe := ⟨_, rfl⟩
      rw [hxe] at HT n3 r0
      clear hxe
      cases xe with
      | true =>
        rw [if_pos rfl] at HT
        have KA : Hid (Keep wr ((wr.alloc (.cells #[.string x.name, .bool x.data, .int .u32 x.off, .bool true] 88)).alloc (.cells #[.int .u32 x.off] 31))) := Lib.hid (((Keep.refl _).alloc _).alloc _)
        have BR : Hid (Box ((wr.alloc (.cells #[.string x.name, .bool x.data, .int .u32 x.off, .bool true] 88)).alloc (.cells #[.int .u32 x.off] 31)) (wr.heap.size + 1) #[.int .u32 x.off]) := Lib.hid (Box.new1 _ _ _ _)
        have szr := HK.out.size
        go_wp2_with (at_builtin; refine wpList_append_own _ rfl _ _ 81 rfl W0.heap.size 31 i0 _ 1 4 Tryz.underlying81 hi0 hz0 hz1 hz2 rfl (by decide) _ (offsS (o.syms.take k)).length ((offsS (o.syms.take k)).map (Value.int .u32)) rfl (owns_keep HO.out KA.out) ⟨wr.heap.size + 1, 0, none⟩ 1 1 [.int .u32 x.off] rfl rfl ?c1 ?c2 ?c3 ?c4 ?c5 ?_)
        case c1 => exact cells_box BR.out rfl
        case c2 => intro u hu; simp at hu; subst hu; rfl
        case c3 => unfold maxLen; omega
        case c4 => omega
        case c5 => simp; omega
        intro v' w3 hown' hgrow _
        have hS : ∀ g, Value.ownBlock _ = some g → W0.heap.size ≤ g := fun g hg => (World.ownsRow.lt HO.out g hg).1
        have K3 := Lib.hid (grown_keep (HK.out.trans KA.out) hgrow hS)
        have OW : Hid (w3.ownsRow W0.heap.size 31 1 v' (offsS (o.syms.take (k + 1))).length ((offsS (o.syms.take (k + 1))).map (Value.int .u32))) := Lib.hid (by
          rw [HT.out, List.map_append, List.length_append]
          exact hown')
        obtain ⟨pw, cw, hw, _, _, _⟩ := owns_cells hown' (by unfold maxLen; omega)
        subst hw
        clear hgrow hS hown' r0 n0 n1 n2 n3
        go_wp2_with fail
        go_roundw
        case rel => exact ⟨k + 1, hlt, by go_num, K3.out, OW.out⟩
        case measure => simp [intOf]; omega
      | false =>
        rw [if_neg (by decide), List.append_nil] at HT
        go_wp2_with fail
        go_roundw
        case rel => exact ⟨k + 1, hlt, by go_num, HK.out.alloc _, by rw [HT.out]; exact owns_keep HO.out ((Keep.refl _).alloc _)⟩
        case measure => simp [intOf]; omega
    · obtain rfl : k = o.syms.length := by omega
      have HO2 := HO.out
      rw [List.take_length] at HO2
      have hl2 : (offsS o.syms).length ≤ 1000 := Nat.le_trans (offsS_length _) few
      obtain ⟨zs, hzs⟩ : ∃ zs, zs = offsS o.syms := ⟨_, rfl⟩
      have PL2 : Hid (Lib.compactUpTo (sortI zs).toArray (sortI zs).toArray.size = placesL o) := Lib.hid (by rw [hzs]; exact PL.out)
      rw [← hzs] at HO2 hl2
      clear hzs
      have SA := lksorted_any zs _ W0.heap.size W0 wr HK.out (Nat.le_refl _) HO2 (by omega)
      clear HO HO2
      rcases SA with ⟨rfl, p3, c3, rfl, hc3, C⟩ | ⟨h0, g, cp, rfl, hc1, hc2, C⟩
      · have C := Lib.hid C
        have C2 := Lib.hid (lkcompact_none p3 c3 wr)
        have hp : placesL o = [] := by
          rw [← PL2.out]
          simp [sortI, Lib.compactUpTo]
        have HP := Lib.hid hp
        clear hp hl2
        go_wp2_with fail
        refine C.out.mono ?_
        rintro e w2 ⟨rfl, rfl⟩
        go_wp2_with fail
        refine C2.out.mono ?_
        rintro e w3 ⟨rfl, hk3⟩
        have K3 := Lib.hid (K0.out.trans (HK.out.trans hk3))
        clear hk3
        go_wp2_with fail
        go_ret
        rw [HP.out]
        exact ⟨_, rfl, ⟨p3, c3, rfl, Nat.zero_le _, hc3, .inl rfl⟩, K3.out⟩
      · have C := Lib.hid C
        go_wp2_with fail
        refine C.out.mono ?_
        rintro e w2 ⟨rfl, hk2, hg1, hg2, hH⟩
        have hsz : (sortI zs).toArray.size = zs.length := by simp [sortI_length]
        have C2 := srt_Compact g 0 cp (sortI zs).toArray w2 hH (by omega) (by omega)
        rw [PL2.out] at C2
        have hpl : (placesL o).length ≤ (sortI zs).toArray.size := by
          rw [← PL2.out]
          unfold Lib.compactUpTo
          rw [List.length_map]
          exact Nat.le_trans (List.length_filter_le _ _) (by simp)
        obtain ⟨nz, hnz⟩ : ∃ nz, nz = zs.length := ⟨_, rfl⟩
        obtain ⟨np, hnp⟩ : ∃ np, np = (placesL o).length := ⟨_, rfl⟩
        rw [hsz, ← hnz, ← hnp] at C2
        have C2 := Lib.hid C2
        have HS := Lib.hid (And.intro hsz (And.intro hpl (And.intro hnz (And.intro hnp hc1))))
        have HH := Lib.hid hH
        have HK2 := Lib.hid hk2
        have HG := Lib.hid (And.intro hg1 hg2)
        rw [← hnz]
        clear hsz hpl hnz hnp hc1 hH hk2 C hl2 hg1 hg2
        go_wp2_with fail
        refine C2.out.mono ?_
        rintro e w3 ⟨rfl, q, hw3⟩
        obtain ⟨hsz, hpl, hnz, hnp, hc1⟩ := HS.out
        obtain ⟨hg1, hg2⟩ := HG.out
        obtain ⟨d3, hd3⟩ : ∃ d3, d3 = (placesL o ++ List.replicate (nz - np) (0 : Int)).toArray := ⟨_, rfl⟩
        rw [← hd3] at hw3
        have hs3 : d3.size = (sortI zs).toArray.size := by rw [hd3, hsz]; simp; omega
        have hcell : Hid (∀ (i : Nat) (x : Value), ((placesL o).map (Value.int .u32))[i]? = some x → w3.cell? ⟨g, 0 + i, none⟩ = some x) := Lib.hid (fun i x hx => by
          obtain ⟨hi, hx⟩ := List.getElem?_eq_some_iff.1 hx
          have hi' : i < (placesL o).length := by simpa using hi
          rw [hw3, Sort.cell?_putRow (Value.int .u32) _ g 0 (sortI zs).toArray d3 (Sort.holds_ahead _ _ _ _ _ _ HH.out) hs3 i (by omega), ← hx, getElem!_pos d3 i (by omega)]
          subst hd3
          simp [List.getElem_append, hi'])
        have KB : KeepBut (fun z => z = g) w2 w3 := by
          have := putRow_but (Value.int .u32) w2 q g 0 d3 #[] hg2
          rw [Sort.grow_empty, ← hw3] at this
          exact this
        have K3 := Lib.hid (K0.out.butNew ((HK2.out.butNew KB (fun x hx => by rw [hx]; exact hg1)).but (fun _ => False)) (fun x hx => hx.elim))
        have hg3 : g < w3.heap.size := Nat.lt_of_lt_of_le hg2 KB.size
        clear KB hd3 hs3 hw3 hsz hpl hnz hnp hc1 hg1 hg2
        go_wp2_with fail
        go_ret
        obtain ⟨hsz, hpl, hnz, hnp, hc1⟩ := HS.out
        refine ⟨_, rfl, ?_, K3.out⟩
        rw [← hnp]
        obtain ⟨hg1, hg2⟩ := HG.out
        have := K0.out.size
        exact ⟨_, cp, rfl, by omega, hc2, .inr ⟨g, rfl, by omega, hg3, hg3, hcell.out⟩⟩
end Go.Proofs.YtbmjnfnekmeegaaGreatDoor

/- The linker's name, comp: what is wrong of an object's name, of a comp's object. -/
namespace Go.Proofs.YtbmjnfnekmeegaaGreatDoor
set_option linter.unusedVariables false
set_option linter.unusedSimpArgs false
open Go Go.RowKit
def nameE (m : ManV) (l : List ObjV) (k : Nat) (o : ObjV) : Int := if hasC m.comps o.name = false then 12 else if ((l.take k).any fun p => decide (p.name = o.name)) = true then 13 else 0
def compE (l : List ObjV) (cc : CompV) : Int := match findO l cc.name with
  | none => 12
  | some o => if o.code.length = 0 then 16 else if (placesL o).length > 64 then 15 else 0
theorem nameE_at {m : ManV} {l : List ObjV} {k : Nat} {o : ObjV} {a t : Bool} (h1 : hasC m.comps o.name = a) (h2 : ((l.take k).any fun p => decide (p.name = o.name)) = t) : nameE m l k o = if a = false then 12 else if t = true then 13 else 0 := by
  unfold nameE
  rw [h1, h2]
set_option maxHeartbeats 4000000 in
set_option maxRecDepth 100000 in
theorem lkname_any (b : Nat) (m : ManV) (vc vi vs vg : Value) (l : List ObjV) (vl : Value) (qs : List V4) (z ps ss is st ad bs : Value) (k : Nat) (o : ObjV) (hk : l[k]? = some o) (w : World) (h : LkAt w b m vc vi vs vg l vl qs z ps ss is st ad bs) (fm : m.comps.length ≤ 1000000) (few : l.length ≤ 1000000) :
    Calls Tryz.prog 60 #[.pointer (some ⟨b, 0, none⟩), .int .i64 (k : Int)] w fun e w' => e = .returned (.int .i64 (nameE m l k o)) ∧ Keep w w' := by
  have CI : Hid (∀ W, Keep w W → Calls Tryz.prog 80 #[.agg #[vc, vi, vs, vg, .string m.start.comp, .string m.start.from_, .string m.start.name], .string o.name] W fun e w' => e = .returned (.int .i64 (idxL m.comps o.name 0)) ∧ Keep W w') := Lib.hid (fun W hW => pindexM_any m vc vi vs vg o.name W (h.man.keep hW) fm)
  have CF := Lib.hid (fun W (hW : Keep w W) => lkfind_any b m vc vi vs vg l vl qs z ps ss is st ad bs o.name W (h.keep hW) few)
  have EA := cidx_neg o.name m.comps
  have EB := idxO_ahead hk
  obtain ⟨q, hq⟩ : ∃ q, qs[k]? = some q := ⟨_, List.getElem?_eq_getElem (by rw [h.objs.nqs]; exact (List.getElem?_eq_some_iff.1 hk).1)⟩
  have cb := h.box.cells
  have HB := Lib.hid h.box
  obtain ⟨p2, cap2, rfl, hcap2, hx2⟩ := h.objs.objsAt
  obtain ⟨b2, off2, rfl, hb2, hx2⟩ := hx2.resolve_left (fun e => by rw [e] at hk; simp at hk)
  have o0 := (hx2 k o q hk hq).1
  have hkl : k < l.length := (List.getElem?_eq_some_iff.1 hk).1
  obtain ⟨I, hI⟩ : ∃ I, idxL m.comps o.name 0 = I := ⟨_, rfl⟩
  obtain ⟨J, hJ⟩ : ∃ J, idxO l o.name 0 = J := ⟨_, rfl⟩
  rw [hI] at CI EA
  rw [hJ] at CF EB
  obtain ⟨t1, h1⟩ : ∃ t, hasC m.comps o.name = t := ⟨_, rfl⟩
  obtain ⟨t2, h2⟩ : ∃ t, ((l.take k).any fun p => decide (p.name = o.name)) = t := ⟨_, rfl⟩
  rw [h1] at EA
  rw [h2] at EB
  rw [nameE_at h1 h2]
  obtain ⟨nl, hnl⟩ : ∃ nl, nl = l.length := ⟨_, rfl⟩
  rw [← hnl] at hkl HB cb
  clear hx2 hq hk hcap2 hnl h hI hJ h1 h2 few fm
  cases t1 with
  | false =>
    rw [if_pos rfl]
    clear EB
    go_enter Tryz.func60, Tryz.ntmps60
    go_wp2_with fail
    refine (CI.out w (Keep.refl _)).mono ?_
    rintro e w1 ⟨rfl, hk1⟩
    have K1 := Lib.hid hk1
    clear hk1
    go_wp2_with fail
    go_ret
    exact ⟨rfl, K1.out⟩
  | true =>
    rw [if_neg (by decide)]
    cases t2 with
    | true =>
      rw [if_pos rfl]
      go_enter Tryz.func60, Tryz.ntmps60
      go_wp2_with fail
      refine (CI.out w (Keep.refl _)).mono ?_
      rintro e w1 ⟨rfl, hk1⟩
      have K1 := Lib.hid hk1
      clear hk1
      go_wp2_with fail
      refine (CF.out w1 K1.out).mono ?_
      rintro e w2 ⟨rfl, hk2⟩
      have K2 := Lib.hid (K1.out.trans hk2)
      clear hk2
      go_wp2_with fail
      go_ret
      exact ⟨rfl, K2.out⟩
    | false =>
      rw [if_neg (by decide)]
      go_enter Tryz.func60, Tryz.ntmps60
      go_wp2_with fail
      refine (CI.out w (Keep.refl _)).mono ?_
      rintro e w1 ⟨rfl, hk1⟩
      have K1 := Lib.hid hk1
      clear hk1
      go_wp2_with fail
      refine (CF.out w1 K1.out).mono ?_
      rintro e w2 ⟨rfl, hk2⟩
      have K2 := Lib.hid (K1.out.trans hk2)
      clear hk2
      go_wp2_with fail
      go_ret
      exact ⟨rfl, K2.out⟩
theorem ObjAt.sls {w : World} {o : ObjV} {q : V4} (h : ObjAt w o q.1 q.2.1 q.2.2.1 q.2.2.2) : ∃ pa ca pb cb pd cd pe ce, q = (.slice pa o.code.length ca, .slice pb o.data.length cb, .slice pd o.syms.length cd, .slice pe o.rels.length ce) := by
  obtain ⟨q0, q1, q2, q3⟩ := q
  obtain ⟨pa, ca, e0, _⟩ := h.code
  obtain ⟨pb, cb, e1, _⟩ := h.data
  obtain ⟨pd, cd, e2, _⟩ := h.syms
  obtain ⟨pe, ce, e3, _⟩ := h.rels
  dsimp only at e0 e1 e2 e3
  subst e0 e1 e2 e3
  exact ⟨pa, ca, pb, cb, pd, cd, pe, ce, rfl⟩
theorem compE_some {l : List ObjV} {cc : CompV} {o : ObjV} (h : findO l cc.name = some o) : compE l cc = if o.code.length = 0 then 16 else if (placesL o).length > 64 then 15 else 0 := by
  unfold compE
  rw [h]
theorem compE_none {l : List ObjV} {cc : CompV} (h : findO l cc.name = none) : compE l cc = 12 := by
  unfold compE
  rw [h]
set_option maxHeartbeats 4000000 in
set_option maxRecDepth 100000 in
theorem lkcomp_any (b : Nat) (m : ManV) (vc vi vs vg : Value) (l : List ObjV) (vl : Value) (qs : List V4) (z ps ss is st ad bs : Value) (c : Nat) (cc : CompV) (hc : m.comps[c]? = some cc) (hf : ObjsFew l) (w : World) (h : LkAt w b m vc vi vs vg l vl qs z ps ss is st ad bs) :
    Calls Tryz.prog 62 #[.pointer (some ⟨b, 0, none⟩), .int .i64 (c : Int)] w fun e w' => e = .returned (.int .i64 (compE l cc)) ∧ Keep w w' := by
  have few : l.length ≤ 1000000 := by have := hf.len; omega
  have CF := Lib.hid (fun W (hW : Keep w W) => lkfind_any b m vc vi vs vg l vl qs z ps ss is st ad bs cc.name W (h.keep hW) few)
  have H := Lib.hid h
  have HF := Lib.hid hf
  have cb := h.box.cells
  have HB := Lib.hid h.box
  obtain ⟨p1, cap1, hv1, hcap1, hx1⟩ := h.man.compsAt
  obtain ⟨b1, off1, hv2, hb1, hx3⟩ := hx1.resolve_left (fun e => by rw [e] at hc; simp at hc)
  subst hv2
  have d0 := (hx3 c cc hc).1
  have hcl : c < m.comps.length := (List.getElem?_eq_some_iff.1 hc).1
  obtain ⟨nc, hnc⟩ : ∃ nc, nc = m.comps.length := ⟨_, rfl⟩
  rw [← hnc] at hcl hv1
  rw [hv1] at cb
  have HC := Lib.hid hc
  clear hx1 hx3 hcap1 hnc hc hf
  rcases hfo : findO l cc.name with _ | o
  · have hi : idxO l cc.name 0 = -1 := by
      rcases idxO_find cc.name l 0 with ⟨_, a⟩ | ⟨k, o', a, _⟩
      · exact a
      · rw [a] at hfo; cases hfo
    rw [hi] at CF
    rw [compE_none hfo]
    clear hi hfo few h
    go_enter Tryz.func62, Tryz.ntmps62
    go_wp2_with fail
    refine (CF.out w (Keep.refl _)).mono ?_
    rintro e w1 ⟨rfl, hk1⟩
    have K1 := Lib.hid hk1
    clear hk1
    go_wp2_with fail
    go_ret
    exact ⟨rfl, K1.out⟩
  · obtain ⟨k, q, HK⟩ := lk_has h.objs.nqs HC.out hfo
    rw [HK.idx] at CF
    have HO := Lib.hid (h.objs.at_ k o q HK.obj HK.val)
    obtain ⟨pa, ca, pb, cb', pd, cd, pe, ce, rfl⟩ := HO.out.sls
    have CO : Hid (∀ W, Keep w W → Calls Tryz.prog 67 #[.pointer (some ⟨b, 0, none⟩), .int .i64 (c : Int)] W fun e w' => e = .returned (.agg #[.string o.name, .slice pa o.code.length ca, .slice pb o.data.length cb', .slice pd o.syms.length cd, .slice pe o.rels.length ce]) ∧ Keep W w') :=
      Lib.hid (fun W hW => lkobject_any b m vc vi vs vg l vl qs z ps ss is st ad bs c cc k o _ HK W (H.out.keep hW) few)
    have ho : o ∈ l := List.mem_of_getElem? HK.obj
    have CE : Hid (∀ W, Keep w W → Calls Tryz.prog 73 #[.agg #[.string o.name, .slice pa o.code.length ca, .slice pb o.data.length cb', .slice pd o.syms.length cd, .slice pe o.rels.length ce]] W fun e w' => ∃ v, e = .returned v ∧ RowOf W.heap.size w'.heap.size w' v (placesL o).length ((placesL o).map (Value.int .u32)) ∧ Keep W w') :=
      Lib.hid (fun W hW => lkexports_any o _ _ _ _ W (HO.out.keep hW) ((HF.out.num o ho).syms) (by have := (HF.out.few o ho).syms; omega))
    have hnn : ¬ ((k : Int) < 0) := by omega
    rw [compE_some hfo]
    obtain ⟨nc1, hn1⟩ : ∃ n, n = o.code.length := ⟨_, rfl⟩
    obtain ⟨nc2, hn2⟩ : ∃ n, n = o.data.length := ⟨_, rfl⟩
    obtain ⟨nc3, hn3⟩ : ∃ n, n = o.syms.length := ⟨_, rfl⟩
    obtain ⟨nc4, hn4⟩ : ∃ n, n = o.rels.length := ⟨_, rfl⟩
    obtain ⟨np, hnp⟩ : ∃ n, n = (placesL o).length := ⟨_, rfl⟩
    rw [← hn1, ← hn2, ← hn3, ← hn4] at CO CE
    rw [← hnp] at CE
    obtain ⟨R, hR⟩ : ∃ R, R = if nc1 = 0 then (16 : Int) else if np > 64 then 15 else 0 := ⟨_, rfl⟩
    rw [← hn1, ← hnp, ← hR]
    have HR := Lib.hid hR
    clear hR hn1 hn2 hn3 hn4 hnp hfo few h ho HK HO
    go_enter Tryz.func62, Tryz.ntmps62
    go_wp2_with fail
    refine (CF.out w (Keep.refl _)).mono ?_
    rintro e w1 ⟨rfl, hk1⟩
    have K1 := Lib.hid hk1
    clear hk1
    go_wp2_with fail
    refine (CO.out w1 K1.out).mono ?_
    rintro e w2 ⟨rfl, hk2⟩
    have K2 := Lib.hid (K1.out.trans hk2)
    clear hk2
    have BO := Box.new w2 #[.string o.name, .slice pa nc1 ca, .slice pb nc2 cb', .slice pd nc3 cd, .slice pe nc4 ce] 76
    have cO := BO.cells
    by_cases z1 : nc1 = 0
    · subst z1
      go_wp2_with fail
      go_ret
      exact ⟨by rw [HR.out, if_pos trivial]; rfl, K2.out.alloc _⟩
    · go_wp2_with fail
      refine (CE.out _ (K2.out.alloc _)).mono ?_
      rintro e w3 ⟨v, rfl, ⟨pv, cv, rfl, _, _, _⟩, hk3⟩
      have K3 := Lib.hid ((K2.out.alloc _).trans hk3)
      clear hk3
      by_cases z2 : np > 64
      · go_wp2_with fail
        go_ret
        exact ⟨by rw [HR.out, if_neg z1, if_pos z2]; rfl, K3.out⟩
      · go_wp2_with fail
        go_ret
        exact ⟨by rw [HR.out, if_neg z1, if_neg z2]; rfl, K3.out⟩
end Go.Proofs.YtbmjnfnekmeegaaGreatDoor

/- The linker's checkCount, room. -/
namespace Go.Proofs.YtbmjnfnekmeegaaGreatDoor
set_option linter.unusedVariables false
set_option linter.unusedSimpArgs false
open Go Go.RowKit
def orels (l : List ObjV) : Nat := (l.map fun o => o.rels.length).sum
def countO (n : Nat) : Option LnkW := if n > 512 then some (((relsT, (n : Int), 15) : WrV), okW) else none
theorem orels_take {l : List ObjV} {k : Nat} {o : ObjV} (h : l[k]? = some o) : orels (l.take (k + 1)) = orels (l.take k) + o.rels.length := by
  obtain ⟨hk, rfl⟩ := List.getElem?_eq_some_iff.1 h
  unfold orels
  rw [List.take_succ_eq_append_getElem hk, List.map_append, List.sum_append]
  simp
theorem orels_le {l : List ObjV} (hf : ∀ o ∈ l, o.rels.length ≤ 40) : orels l ≤ l.length * 40 := by
  induction l with
  | nil => simp [orels]
  | cons a l ih =>
    have h1 := hf a (by simp)
    have h2 := ih fun o ho => hf o (by simp [ho])
    unfold orels at h2 ⊢
    rw [List.map_cons, List.sum_cons, List.length_cons, Nat.add_mul]
    omega
set_option maxHeartbeats 4000000 in
set_option maxRecDepth 100000 in
theorem lkChkCount_any (b : Nat) (m : ManV) (vc vi vs vg : Value) (l : List ObjV) (vl : Value) (qs : List V4) (z ps ss is st ad bs : Value) (hf : ObjsFew l) (w : World) (h : LkAt w b m vc vi vs vg l vl qs z ps ss is st ad bs) :
    Calls Tryz.prog 24 #[.pointer (some ⟨b, 0, none⟩)] w (LChk w (countO (orels l))) := by
  have CF := Lib.hid (fun (n : Nat) W => lkfault_any relsT (n : Int) (some (((relsT, (n : Int), 15) : WrV), okW)) (errnoV 15) W (.inr (.inl ⟨15, by decide, rfl, rfl⟩)))
  unfold errnoV at CF
  have HA := Lib.hid h
  have HF := Lib.hid hf
  have few : l.length ≤ 10 := hf.len
  have hle : Hid (∀ k, orels (l.take k) ≤ 400) := Lib.hid (fun k => by
    have := orels_le (l := l.take k) (fun o ho => (hf.few o (List.mem_of_mem_take ho)).rels)
    rw [List.length_take] at this
    omega)
  have cb := h.box.cells
  obtain ⟨p2, cap2, hv2, hcap2, hx2⟩ := h.objs.objsAt
  rw [hv2] at cb
  have HX := Lib.hid hx2
  clear h hf hx2
  go_enter Tryz.func24, Tryz.ntmps24
  go_wp2_with fail
  go_loopw [3, 5, 11] (fun n _ i wr => ∃ k : Nat, k ≤ l.length ∧ i = .int .i64 (k : Int) ∧ n = .int .i64 ((orels (l.take k) : Nat) : Int) ∧ Keep w wr) (fun _ _ i _ => l.length - (intOf i).toNat)
  case atStart => exact ⟨0, Nat.zero_le _, rfl, by simp [orels], Keep.refl _⟩
  case round =>
    obtain ⟨k, hk, rfl, rfl, hK⟩ := hrel
    have HK := Lib.hid hK
    have hsm := hle.out k
    clear hK
    by_cases hlt : k < l.length
    · obtain ⟨o, ho⟩ : ∃ o, l[k]? = some o := ⟨_, List.getElem?_eq_getElem hlt⟩
      have hki : (k : Int) < (l.length : Int) := by omega
      obtain ⟨q, hq⟩ : ∃ q, qs[k]? = some q := ⟨_, List.getElem?_eq_getElem (by rw [HA.out.objs.nqs]; exact hlt)⟩
      have HO := Lib.hid (HA.out.objs.at_ k o q ho hq)
      obtain ⟨pa, ca, pb, cb', pd, cd, pe, ce, rfl⟩ := HO.out.sls
      obtain ⟨b2, off2, rfl, hb2, hx3⟩ := HX.out.resolve_left (fun e => by rw [e] at ho; simp at ho)
      obtain ⟨o0, o1, o2, o3, o4⟩ := hx3 k o _ ho hq
      dsimp only at o1 o2 o3 o4
      have o0 := HK.out.cellOf o0
      have o1 := HK.out.cellOf o1
      have o2 := HK.out.cellOf o2
      have o3 := HK.out.cellOf o3
      have o4 := HK.out.cellOf o4
      have HT := Lib.hid (orels_take ho)
      have hrl := (HF.out.few o (List.mem_of_getElem? ho)).rels
      obtain ⟨n1, hn1⟩ : ∃ n, n = o.code.length := ⟨_, rfl⟩
      obtain ⟨n2, hn2⟩ : ∃ n, n = o.data.length := ⟨_, rfl⟩
      obtain ⟨n3, hn3⟩ : ∃ n, n = o.syms.length := ⟨_, rfl⟩
      obtain ⟨n4, hn4⟩ : ∃ n, n = o.rels.length := ⟨_, rfl⟩
      obtain ⟨S, hS⟩ : ∃ S, S = orels (l.take k) := ⟨_, rfl⟩
      rw [← hn1] at o1
      rw [← hn2] at o2
      rw [← hn3] at o3
      rw [← hn4] at o4 HT hrl
      rw [← hS] at HT hsm ⊢
      have c0 := (Box.new wr #[.string o.name, .slice pa n1 ca, .slice pb n2 cb', .slice pd n3 cd, .slice pe n4 ce] 76).cells
      clear ho hq hx3 hn1 hn2 hn3 hn4 hS
      go_wp2_with fail
      go_roundw
      case rel => exact ⟨k + 1, hlt, by go_num, by rw [HT.out]; go_num, HK.out.alloc _⟩
      case measure => simp [intOf]; omega
    · obtain rfl : k = l.length := by omega
      obtain ⟨S, hS⟩ : ∃ S, S = orels l := ⟨_, rfl⟩
      rw [List.take_length] at hsm ⊢
      rw [← hS] at hsm ⊢
      have HS := Lib.hid hS
      clear hS
      have n0 : ¬ (512 < S) := by omega
      have n1 : ¬ ((512 : Int) < (S : Int)) := by omega
      go_wp2_with fail
      go_ret
      refine ⟨_, rfl, ?_, HK.out⟩
      rw [← HS.out]
      unfold countO
      rw [if_neg n0]
      rfl
/-- What is wrong with a size. -/
def roomE (size want : Int) : Int := if size < want ∨ 65536 < size then 6 else if size % 16 ≠ 0 then 5 else 0
theorem lkroom_any (size want : Int) (h : N32 size) (w : World) : Calls Tryz.prog 74 #[.int .u32 size, .int .u32 want] w fun e w' => e = .returned (.int .i64 (roomE size want)) ∧ w = w' := by
  obtain ⟨h0, h1⟩ := h
  obtain ⟨R, hR⟩ : ∃ R, R = roomE size want := ⟨_, rfl⟩
  rw [← hR]
  unfold roomE at hR
  have HR := Lib.hid hR
  clear hR
  by_cases a : size < want
  · go_enter Tryz.func74, Tryz.ntmps74
    go_wp2_with fail
    go_ret
    exact ⟨by rw [HR.out, if_pos (.inl a)]; rfl, rfl⟩
  · by_cases d : 65536 < size
    · go_enter Tryz.func74, Tryz.ntmps74
      go_wp2_with fail
      go_ret
      exact ⟨by rw [HR.out, if_pos (.inr d)]; rfl, rfl⟩
    · rcases Bool.eq_false_or_eq_true (size % 16 != 0) with g | g
      · have g2 : size % 16 ≠ 0 := by simpa using g
        go_enter Tryz.func74, Tryz.ntmps74
        go_wp2_with fail
        go_ret
        exact ⟨by rw [HR.out, if_neg (by omega), if_pos g2]; rfl, rfl⟩
      · have g2 : ¬ (size % 16 ≠ 0) := by simpa using g
        go_enter Tryz.func74, Tryz.ntmps74
        go_wp2_with fail
        go_ret
        exact ⟨by rw [HR.out, if_neg (by omega), if_neg g2]; rfl, rfl⟩
end Go.Proofs.YtbmjnfnekmeegaaGreatDoor

/- The linker's callee: what is wrong of what a manifest's Import is of. -/
namespace Go.Proofs.YtbmjnfnekmeegaaGreatDoor
set_option linter.unusedVariables false
set_option linter.unusedSimpArgs false
open Go Go.RowKit
def findP (o : ObjV) (n : ByteArray) : SymV × Bool := match findS o.syms n with
  | some s => (s, true)
  | none => (noSym, false)
def calleeE (o : ObjV) (n : ByteArray) : Int := if exportsO o n = true then 0 else 12
theorem exports_P (o : ObjV) (n : ByteArray) : exportsO o n = ((findP o n).2 && (findP o n).1.exp) := by
  unfold exportsO findP
  cases findS o.syms n with
  | none => rfl
  | some s => simp
theorem symOf_P (o : ObjV) (n : ByteArray) : symOf o n = (findP o n).1 := by
  unfold symOf findP
  cases findS o.syms n with
  | none => rfl
  | some s => rfl
theorem find_P {o : ObjV} {n : ByteArray} {e : Ending} (h : FindR o.syms n e) : e = .returned (.tuple #[symVal (findP o n).1, .bool (findP o n).2]) := by
  unfold FindR at h
  unfold findP
  cases hf : findS o.syms n with
  | none => rw [hf] at h; exact h
  | some s => rw [hf] at h; exact h
set_option maxHeartbeats 4000000 in
set_option maxRecDepth 100000 in
theorem lkcallee_any (b : Nat) (m : ManV) (vc vi vs vg : Value) (l : List ObjV) (vl : Value) (qs : List V4) (z ps ss is st ad bs : Value) (x : ImpV) (c : Nat) (cc : CompV) (k : Nat) (o : ObjV) (q : V4) (H : LkHas m l qs c cc k o q) (hx : idxL m.comps x.from_ 0 = (c : Int)) (hf : ObjsFew l) (fm : m.comps.length ≤ 1000000) (w : World) (h : LkAt w b m vc vi vs vg l vl qs z ps ss is st ad bs) :
    Calls Tryz.prog 65 #[.pointer (some ⟨b, 0, none⟩), impVal x] w fun e w' => e = .returned (.int .i64 (calleeE o x.name)) ∧ Keep w w' := by
  have few : l.length ≤ 1000000 := by have := hf.len; omega
  obtain ⟨W0, hW0⟩ : ∃ W0, W0 = w.alloc (.cells #[.string x.comp, .string x.from_, .string x.name] 27) := ⟨_, rfl⟩
  have K0 : Hid (Keep w W0) := Lib.hid (by rw [hW0]; exact (Keep.refl _).alloc _)
  have BX : Hid (Box W0 w.heap.size #[.string x.comp, .string x.from_, .string x.name]) := Lib.hid (by rw [hW0]; exact Box.new _ _ _)
  have hlt : w.heap.size < W0.heap.size := BX.out.lt
  have hltb : b < W0.heap.size := Nat.lt_of_lt_of_le h.box.lt K0.out.size
  have HB := Lib.hid (h.box.keep K0.out)
  have ho : o ∈ l := List.mem_of_getElem? H.obj
  have HO := Lib.hid (h.objs.at_ k o q H.obj H.val)
  have CI : Hid (∀ W, Keep W0 W → Calls Tryz.prog 80 #[.agg #[vc, vi, vs, vg, .string m.start.comp, .string m.start.from_, .string m.start.name], .string x.from_] W fun e w' => e = .returned (.int .i64 (c : Int)) ∧ Keep W w') := Lib.hid (fun W hW => by
    have := pindexM_any m vc vi vs vg x.from_ W (h.man.keep (K0.out.trans hW)) fm
    rw [hx] at this
    exact this)
  have CO : Hid (∀ W, Keep W0 W → Calls Tryz.prog 67 #[.pointer (some ⟨b, 0, none⟩), .int .i64 (c : Int)] W fun e w' => e = .returned (.agg #[.string o.name, q.1, q.2.1, q.2.2.1, q.2.2.2]) ∧ Keep W w') :=
    Lib.hid (fun W hW => lkobject_any b m vc vi vs vg l vl qs z ps ss is st ad bs c cc k o q H W (h.keep (K0.out.trans hW)) few)
  have hsy := (hf.few o ho).syms
  have CF : Hid (∀ W, Keep W0 W → Calls Tryz.prog 117 #[.agg #[.string o.name, q.1, q.2.1, q.2.2.1, q.2.2.2], .string x.name] W fun e w' => e = .returned (.tuple #[.agg #[.string (findP o x.name).1.name, .bool (findP o x.name).1.data, .int .u32 (findP o x.name).1.off, .bool (findP o x.name).1.exp], .bool (findP o x.name).2]) ∧ Keep W w') :=
    Lib.hid (fun W hW => (pfindO_any o _ _ _ _ x.name W (HO.out.keep (K0.out.trans hW)) (by omega)).mono fun e w' hh => ⟨find_P hh.1, hh.2⟩)
  obtain ⟨R, hR⟩ : ∃ R, R = calleeE o x.name := ⟨_, rfl⟩
  rw [← hR]
  unfold calleeE at hR
  rw [exports_P] at hR
  obtain ⟨⟨⟨sn, sd, so, se⟩, fb⟩, hP⟩ : ∃ P, P = findP o x.name := ⟨_, rfl⟩
  rw [← hP] at CF hR
  dsimp only at CF hR
  have HR := Lib.hid hR
  obtain ⟨q0, q1, q2, q3⟩ := q
  dsimp only at CO CF
  clear hP hR hsy ho H hx hf fm h few HO
  unfold impVal
  go_enter Tryz.func65, Tryz.ntmps65
  go_wp2_with fail
  rw [← hW0]
  clear hW0
  refine Rel.regionO (KeepBut (fun z => W0.heap.size ≤ z)) (butWay _) [15, 16] [0, 1, 2, 3, 4, 5, 6, 7, 8, 9, 10, 11, 12, 13, 14, 15, 16, 17] (by kernel_rfl) (by kernel_rfl) (Keep.refl _) ?_
  repeat (first
    | (apply Rel.ordK_step (by rfl) (by rfl) (by rfl)
       · intro W' hW'
         have kw := hW'.keep fun z hz => hz
         have cb := (HB.out.keep kw).cells
         have cx := (BX.out.keep kw).cells
         go_simp
         first
           | exact ⟨rfl, Keep.refl _⟩
           | (apply yes_enter; go_at_call 80; refine (CI.out _ kw).mono ?_; rintro e w' ⟨rfl, hk⟩; exact ⟨rfl, hk⟩)
           | (apply yes_enter; go_at_call 67; refine (CO.out _ kw).mono ?_; rintro e w' ⟨rfl, hk⟩; exact ⟨rfl, hk⟩)
           | (apply yes_enter; go_at_call 117; refine (CF.out _ kw).mono ?_; rintro e w' ⟨rfl, hk⟩; exact ⟨rfl, hk⟩)
       go_simp))
  apply Rel.ordK_loose (by rfl) (by rfl) (by rfl)
  intro W1 hW1
  go_simp
  apply Rel.gives_value
  refine ⟨((Keep.refl _).alloc _).but _, ?_⟩
  have BR : Box (W1.alloc (.cells #[.string ⟨#[]⟩, .bool false, .int .u32 0, .bool false] 88)) W1.heap.size #[.string ⟨#[]⟩, .bool false, .int .u32 0, .bool false] := Box.new _ _ _
  have KA := hW1.alloc (.cells #[.string ⟨#[]⟩, .bool false, .int .u32 0, .bool false] 88)
  have hs : W0.heap.size ≤ W1.heap.size := hW1.size
  go_simp
  apply Rel.ordK_loose (by rfl) (by rfl) (by rfl)
  intro W3 hW3
  have K3 := KA.trans hW3
  have B3 := BR.keep hW3
  have f3 := B3.thawed
  have c3 := B3.cells
  go_simp
  apply Rel.gives_skip
  obtain ⟨W4, hW4⟩ : ∃ W4, W4 = ((((W3.setCell ⟨W1.heap.size, 0, none⟩ (.string sn)).setCell ⟨W1.heap.size, 1, none⟩ (.bool sd)).setCell ⟨W1.heap.size, 2, none⟩ (.int .u32 so)).setCell ⟨W1.heap.size, 3, none⟩ (.bool se)) := ⟨_, rfl⟩
  rw [← hW4]
  have B4 : Box W4 W1.heap.size #[.string sn, .bool sd, .int .u32 so, .bool se] := by
    rw [hW4]; simpa using (((B3.set 0 (.string sn)).set 1 (.bool sd)).set 2 (.int .u32 so)).set 3 (.bool se)
  have K34 : KeepBut (fun z => W0.heap.size ≤ z) W3 W4 := by
    rw [hW4]
    repeat (with_reducible refine KeepBut.setAt ?_ ?_ _; · exact .inl hs)
    exact KeepBut.refl _ _
  have K4 : Keep W0 W4 := ((K3.but _).trans K34).keep (fun z hz => hz)
  refine ⟨K34, ?_⟩
  clear hW4 K34 B3 f3 c3 K3 hW3 KA BR hW1
  obtain ⟨tb, htb⟩ : ∃ tb, tb = W1.heap.size := ⟨_, rfl⟩
  rw [← htb] at B4 hs ⊢
  clear htb
  go_simp
  apply Rel.ordK_step (by rfl) (by rfl) (by rfl)
  · intro W' hW'
    go_simp
    exact ⟨rfl, Keep.refl _⟩
  go_simp
  apply Rel.ordK_end
  intro W5 hW5
  have K5 := Lib.hid (K0.out.trans (K4.trans hW5))
  have c5 := (B4.keep hW5).cells
  clear B4 hW5 K4 hs
  cases fb with
  | false =>
    go_wp2_with fail
    go_ret
    exact ⟨by rw [HR.out, Bool.false_and, if_neg (by decide)]; rfl, K5.out⟩
  | true =>
    cases se with
    | false =>
      go_wp2_with fail
      go_ret
      exact ⟨by rw [HR.out, Bool.true_and, if_neg (by decide)]; rfl, K5.out⟩
    | true =>
      go_wp2_with fail
      go_ret
      exact ⟨by rw [HR.out, Bool.true_and]; first | rfl | (rw [if_pos rfl]; rfl) | (rw [if_pos trivial]; rfl), K5.out⟩
end Go.Proofs.YtbmjnfnekmeegaaGreatDoor

/- The linker's relocation: what is wrong of what a comp asks for. -/
namespace Go.Proofs.YtbmjnfnekmeegaaGreatDoor
set_option linter.unusedVariables false
set_option linter.unusedSimpArgs false
open Go Go.RowKit
theorem idxF_find {α : Type} (f : α → Bool) : ∀ (l : List α) (i : Nat), (l.find? f = none ∧ idxF f l i = -1) ∨ ∃ (k : Nat) (x : α), l.find? f = some x ∧ l[k]? = some x ∧ f x = true ∧ idxF f l i = ((i + k : Nat) : Int)
  | [], _ => .inl ⟨rfl, rfl⟩
  | c :: r, i => by
    by_cases h : f c = true
    · refine .inr ⟨0, c, ?_, rfl, h, ?_⟩
      · rw [List.find?_cons_of_pos h]
      · unfold idxF
        rw [if_pos h, Nat.add_zero]
    · have e : (c :: r).find? f = r.find? f := by rw [List.find?_cons_of_neg h]
      have e2 : idxF f (c :: r) i = idxF f r (i + 1) := by rw [idxF, if_neg h]
      rcases idxF_find f r (i + 1) with ⟨a, b⟩ | ⟨k, x, a, b, d, g⟩
      · exact .inl ⟨e.trans a, e2.trans b⟩
      · refine .inr ⟨k + 1, x, e.trans a, by simpa using b, d, ?_⟩
        rw [e2, g]
        congr 1
        omega
theorem idxF_any {α : Type} (f : α → Bool) (l : List α) : decide (0 ≤ idxF f l 0) = l.any f := by
  rcases idxF_find f l 0 with ⟨a, b⟩ | ⟨k, x, a, b, d, g⟩
  · rw [b]
    symm
    rw [List.find?_eq_none] at a
    rw [List.any_eq_false.2 (fun x hx => by simpa using a x hx)]
    decide
  · rw [g, decide_eq_true (by omega)]
    symm
    exact List.any_eq_true.2 ⟨x, List.mem_of_getElem? b, d⟩
theorem grnF_eq (c s : ByteArray) : (fun g : GrnV => decide (g.comp = c ∧ g.share = s)) = grnF c s := by
  funext g
  unfold grnF
  rw [Bool.decide_and]
theorem grantP_F (m : ManV) (c s : ByteArray) : grantP m c s = match m.grns.find? (grnF c s) with
    | none => 0
    | some g => g.perm := by
  unfold grantP
  rw [grnF_eq]
  cases m.grns.find? (grnF c s) <;> rfl
theorem grn_neg {m : ManV} {c s : ByteArray} (hz : ∀ g ∈ m.grns, g.perm ≠ 0) : decide (idxF (grnF c s) m.grns 0 < 0) = decide (grantP m c s = 0) := by
  rw [grantP_F]
  rcases idxF_find (grnF c s) m.grns 0 with ⟨a, b⟩ | ⟨k, x, a, b, d, g⟩
  · rw [a, b]; rfl
  · rw [a, g]
    dsimp only
    rw [decide_eq_false (hz x (List.mem_of_getElem? b)), decide_eq_false (by omega)]
theorem imps_F (l : List ImpV) (c f n : ByteArray) : (l.any fun x => decide (x.comp = c ∧ x.from_ = f ∧ x.name = n)) = l.any (likeI ⟨c, f, n⟩) := by
  rfl
theorem lkcontains_any (l : List ImpV) (p : Option Addr) (cap : Nat) (y : ImpV) (w : World) (few : l.length ≤ 1000000) (hl : SlAt w (.slice p l.length cap) l.length (l.flatMap impRow)) :
    Calls Tryz.prog 118 #[.slice p l.length cap, impVal y] w fun e w' => e = .returned (.bool (l.any (likeI y))) ∧ Keep w w' := by
  have C := Lib.hid (fun W (hW : Keep w W) => pidxI_any l p cap y W few (hl.keep hW))
  rw [← idxF_any]
  obtain ⟨I, hI⟩ : ∃ I, idxF (likeI y) l 0 = I := ⟨_, rfl⟩
  rw [hI] at C ⊢
  unfold impVal at C ⊢
  have BX := Box.new w #[.string y.comp, .string y.from_, .string y.name] 27
  have cx := BX.cells
  clear hI hl
  go_enter Tryz.func118, Tryz.ntmps118
  go_wp2_with fail
  refine (C.out _ ((Keep.refl _).alloc _)).mono ?_
  rintro e w1 ⟨rfl, hk⟩
  have HK := Lib.hid (((Keep.refl w).alloc _).trans hk)
  clear hk
  go_wp2_with fail
  go_ret
  exact ⟨rfl, HK.out⟩
set_option maxHeartbeats 4000000 in
set_option maxRecDepth 100000 in
theorem lkreloc_any (b : Nat) (m : ManV) (vc vi vs vg : Value) (l : List ObjV) (vl : Value) (qs : List V4) (z ps ss is st ad bs : Value) (c : Nat) (cc : CompV) (hc : m.comps[c]? = some cc) (r : RelV) (hz : ∀ g ∈ m.grns, g.perm ≠ 0) (hm : ManMay m) (w : World) (h : LkAt w b m vc vi vs vg l vl qs z ps ss is st ad bs) :
    Calls Tryz.prog 69 #[.pointer (some ⟨b, 0, none⟩), .int .i64 (c : Int), lrelVal r] w fun e w' => e = .returned (.int .i64 (lrelE m cc.name r)) ∧ Keep w w' := by
  obtain ⟨kd, ro, rc, rn, rp⟩ := r
  unfold lrelVal
  dsimp only
  obtain ⟨W0, hW0⟩ : ∃ W0, W0 = w.alloc (.cells #[.int .i64 kd, .int .u32 ro, .string rc, .string rn, .int .u16 rp] 137) := ⟨_, rfl⟩
  have K0 : Hid (Keep w W0) := Lib.hid (by rw [hW0]; exact (Keep.refl _).alloc _)
  have BR : Hid (Box W0 w.heap.size #[.int .i64 kd, .int .u32 ro, .string rc, .string rn, .int .u16 rp]) := Lib.hid (by rw [hW0]; exact Box.new _ _ _)
  have br := BR.out.cells
  rw [hW0] at br
  have HB := Lib.hid (h.box.keep K0.out)
  obtain ⟨R, hR⟩ : ∃ R, R = lrelE m cc.name ⟨kd, ro, rc, rn, rp⟩ := ⟨_, rfl⟩
  rw [← hR]
  unfold lrelE at hR
  dsimp only at hR
  rw [imps_F] at hR
  have HR := Lib.hid hR
  clear hR
  rcases Bool.eq_false_or_eq_true (kd == 2) with d2 | d2
  · obtain rfl : kd = 2 := by simpa using d2
    have HI := Lib.hid h.man.imps
    obtain ⟨p, cap, hvi, _, _, _⟩ := h.man.imps
    subst hvi
    have CC : Hid (∀ W, Keep W0 W → Calls Tryz.prog 118 #[.slice p m.imps.length cap, .agg #[.string cc.name, .string rc, .string rn]] W fun e w' => e = .returned (.bool (m.imps.any (likeI ⟨cc.name, rc, rn⟩))) ∧ Keep W w') :=
      Lib.hid (fun W hW => lkcontains_any m.imps p cap ⟨cc.name, rc, rn⟩ W (by have := hm.imps; omega) (HI.out.keep (K0.out.trans hW)))
    obtain ⟨p1, cap1, hv1, hcap1, hx1⟩ := h.man.compsAt
    obtain ⟨b1, off1, hv2, hb1, hx3⟩ := hx1.resolve_left (fun e => by rw [e] at hc; simp at hc)
    subst hv2
    have HC := Lib.hid (hx3 c cc hc).1
    have hcl : c < m.comps.length := (List.getElem?_eq_some_iff.1 hc).1
    obtain ⟨nc, hnc⟩ : ∃ nc, nc = m.comps.length := ⟨_, rfl⟩
    rw [← hnc] at hcl hv1
    rw [hv1] at HB
    obtain ⟨T, hT⟩ : ∃ T, T = m.imps.any (likeI ⟨cc.name, rc, rn⟩) := ⟨_, rfl⟩
    rw [← hT] at CC HR
    obtain ⟨ni, hni⟩ : ∃ n, n = m.imps.length := ⟨_, rfl⟩
    rw [← hni] at CC HB
    clear hx1 hx3 hcap1 hnc hc hT hm hz h hv1 hni HI
    go_enter Tryz.func69, Tryz.ntmps69
    go_wp2_with fail
    rw [← hW0]
    clear hW0 br
    refine region_grows (Keep W0) (by kernel_rfl) (by kernel_rfl) (Keep.refl _).drew ?_
    repeat (first
      | (apply text_pass (by rfl); go_simp)
      | (apply text_step (by rfl)
         · intro W hW
           have kw := K0.out.trans hW
           have cb := (HB.out.keep hW).cells
           have cr := (BR.out.keep hW).cells
           have d0 := kw.cellOf HC.out
           go_simp
           first
           | (apply yes_enter; go_at_call 118; refine (CC.out _ hW).mono ?_; rintro e w' ⟨rfl, hk⟩; exact ⟨rfl, hW.trans hk⟩)
           | exact ⟨rfl, hW⟩
         go_simp))
    apply text_end
    intro W1 hW1
    have K1 := Lib.hid (K0.out.trans hW1)
    clear hW1
    cases T with
    | true =>
      go_wp2_with fail
      go_ret
      exact ⟨by rw [HR.out]; first | rfl | simp, K1.out⟩
    | false =>
      go_wp2_with fail
      go_ret
      exact ⟨by rw [HR.out]; first | rfl | simp, K1.out⟩
  · rcases Bool.eq_false_or_eq_true (kd == 3) with d3 | d3
    · obtain rfl : kd = 3 := by simpa using d3
      have CS := Lib.hid (fun W (hW : Keep W0 W) => lkshare_any b m vc vi vs vg l vl qs z ps ss is st ad bs rn W (h.keep (K0.out.trans hW)) (by have := hm.shrs; omega))
      have CG := Lib.hid (fun W (hW : Keep W0 W) => lkgrant_any b m vc vi vs vg l vl qs z ps ss is st ad bs c cc rn hc W (h.keep (K0.out.trans hW)) (by have := hm.grns; omega))
      have EA := cidx_neg rn m.shrs
      have EB := grn_neg (c := cc.name) (s := rn) hz
      obtain ⟨I, hI⟩ : ∃ I, idxL m.shrs rn 0 = I := ⟨_, rfl⟩
      obtain ⟨J, hJ⟩ : ∃ J, idxF (grnF cc.name rn) m.grns 0 = J := ⟨_, rfl⟩
      rw [hI] at CS EA
      rw [hJ] at CG EB
      obtain ⟨t1, h1⟩ : ∃ t, hasC m.shrs rn = t := ⟨_, rfl⟩
      obtain ⟨t2, h2⟩ : ∃ t, decide (grantP m cc.name rn = 0) = t := ⟨_, rfl⟩
      have H2 := Lib.hid h2
      rw [h1] at EA HR
      rw [h2] at EB
      clear hI hJ h1 h2 hm hz h hc
      go_enter Tryz.func69, Tryz.ntmps69
      cases t1 with
      | false =>
        go_wp2_with fail
        rw [← hW0]
        refine (CS.out _ (Keep.refl _)).mono ?_
        rintro e w1 ⟨rfl, hk1⟩
        have K1 := Lib.hid (K0.out.trans hk1)
        clear hk1 hW0 br
        go_wp2_with fail
        go_ret
        exact ⟨by rw [HR.out]; first | rfl | simp, K1.out⟩
      | true =>
        cases t2 with
        | true =>
          go_wp2_with fail
          rw [← hW0]
          refine (CS.out _ (Keep.refl _)).mono ?_
          rintro e w1 ⟨rfl, hk1⟩
          have K1 := Lib.hid hk1
          have br2 := (BR.out.keep hk1).cells
          clear hk1 hW0 br
          go_wp2_with fail
          refine (CG.out _ K1.out).mono ?_
          rintro e w2 ⟨rfl, hk2⟩
          have K2 := Lib.hid (K0.out.trans (K1.out.trans hk2))
          clear hk2
          go_wp2_with fail
          go_ret
          have g0 := of_decide_eq_true H2.out
          exact ⟨by rw [HR.out, g0]; first | rfl | simp, K2.out⟩
        | false =>
          go_wp2_with fail
          rw [← hW0]
          refine (CS.out _ (Keep.refl _)).mono ?_
          rintro e w1 ⟨rfl, hk1⟩
          have K1 := Lib.hid hk1
          have br2 := (BR.out.keep hk1).cells
          clear hk1 hW0 br
          go_wp2_with fail
          refine (CG.out _ K1.out).mono ?_
          rintro e w2 ⟨rfl, hk2⟩
          have K2 := Lib.hid (K0.out.trans (K1.out.trans hk2))
          clear hk2
          go_wp2_with fail
          go_ret
          have g0 := of_decide_eq_false H2.out
          exact ⟨by rw [HR.out, if_neg (by decide), if_pos (by first | rfl | trivial), if_neg (by decide), if_neg g0]; rfl, K2.out⟩
    · have n2 : ¬ kd = 2 := by intro e; subst e; simp at d2
      have n3 : ¬ kd = 3 := by intro e; subst e; simp at d3
      have N := Lib.hid (And.intro n2 n3)
      clear n2 n3 hm hz h hc
      go_enter Tryz.func69, Tryz.ntmps69
      go_wp2_with fail
      rw [← hW0]
      go_ret
      exact ⟨by rw [HR.out, if_neg N.out.1, if_neg N.out.2]; rfl, K0.out⟩
end Go.Proofs.YtbmjnfnekmeegaaGreatDoor

/- The linker's symbol: whether it is of the data, where it lies in the image. -/
namespace Go.Proofs.YtbmjnfnekmeegaaGreatDoor
set_option linter.unusedVariables false
set_option linter.unusedSimpArgs false
open Go Go.RowKit
/-- What lies of parts, as a slice says them. -/
theorem partsIn {w : World} {v : Value} {P : List PartV} {ves : List Value} (hn : ves.length = P.length) (h : SlAt w v P.length (partRows P ves)) {c : Nat} {p : PartV} (hp : P[c]? = some p) : ∃ b off cap ve, v = .slice (some ⟨b, off, none⟩) P.length cap ∧ ves[c]? = some ve ∧ b < w.heap.size ∧
    w.cell? ⟨b, off + c * 8, none⟩ = some (.string p.name) ∧ w.cell? ⟨b, off + c * 8 + 1, none⟩ = some (.int .u32 p.code.at_) ∧ w.cell? ⟨b, off + c * 8 + 2, none⟩ = some (.int .u32 p.code.size) ∧ w.cell? ⟨b, off + c * 8 + 3, none⟩ = some (.int .u32 p.data.at_) ∧ w.cell? ⟨b, off + c * 8 + 4, none⟩ = some (.int .u32 p.data.size) ∧
    w.cell? ⟨b, off + c * 8 + 5, none⟩ = some (.int .u32 p.stack.at_) ∧ w.cell? ⟨b, off + c * 8 + 6, none⟩ = some (.int .u32 p.stack.size) ∧ w.cell? ⟨b, off + c * 8 + 7, none⟩ = some ve := by
  have hl : (P.zip ves).length = P.length := by rw [List.length_zip, hn]; omega
  unfold partRows at h
  rw [← hl] at h
  obtain ⟨p1, cap, h1, h2, h3, h4⟩ := h.rowsAt (m := 8) (fun _ => rfl)
  rw [hl] at h1
  obtain ⟨ve, hv⟩ : ∃ ve, ves[c]? = some ve := ⟨_, List.getElem?_eq_getElem (by rw [hn]; exact (List.getElem?_eq_some_iff.1 hp).1)⟩
  have hz : (P.zip ves)[c]? = some (p, ve) := List.getElem?_zip_eq_some.2 ⟨hp, hv⟩
  rcases h4 with h4 | h4 | ⟨b, off, h4, h5, h6⟩
  · rw [h4] at hz; simp at hz
  · cases h4
  · subst h4
    have g := h6 c (p, ve) hz
    exact ⟨b, off, cap, ve, h1, hv, h5, g 0 _ (by decide) rfl, g 1 _ (by decide) rfl, g 2 _ (by decide) rfl, g 3 _ (by decide) rfl, g 4 _ (by decide) rfl, g 5 _ (by decide) rfl, g 6 _ (by decide) rfl, g 7 _ (by decide) rfl⟩
set_option maxHeartbeats 4000000 in
set_option maxRecDepth 100000 in
theorem lksymbol_any (b : Nat) (m : ManV) (vc vi vs vg : Value) (l : List ObjV) (vl : Value) (qs : List V4) (z ps ss is st ad bs : Value) (c : Nat) (cc : CompV) (k : Nat) (o : ObjV) (q : V4) (H : LkHas m l qs c cc k o q) (n : ByteArray) (hf : ObjsFew l) (P : List PartV) (ves : List Value) (p : PartV) (hp : P[c]? = some p) (hn : ves.length = P.length) (w : World) (h : LkAt w b m vc vi vs vg l vl qs z ps ss is st ad bs) (hP : SlAt w ps P.length (partRows P ves))
    (hb : N32 ((if (symOf o n).data = true then p.data.at_ else p.code.at_) + (symOf o n).off)) :
    Calls Tryz.prog 81 #[.pointer (some ⟨b, 0, none⟩), .int .i64 (c : Int), .string n] w fun e w' => e = .returned (.tuple #[.bool (symOf o n).data, .int .u32 ((if (symOf o n).data = true then p.data.at_ else p.code.at_) + (symOf o n).off)]) ∧ Keep w w' := by
  have few : l.length ≤ 1000000 := by have := hf.len; omega
  have ho : o ∈ l := List.mem_of_getElem? H.obj
  have HO := Lib.hid (h.objs.at_ k o q H.obj H.val)
  have hsy := (hf.few o ho).syms
  have CO : Hid (∀ W, Keep w W → Calls Tryz.prog 67 #[.pointer (some ⟨b, 0, none⟩), .int .i64 (c : Int)] W fun e w' => e = .returned (.agg #[.string o.name, q.1, q.2.1, q.2.2.1, q.2.2.2]) ∧ Keep W w') :=
    Lib.hid (fun W hW => lkobject_any b m vc vi vs vg l vl qs z ps ss is st ad bs c cc k o q H W (h.keep hW) few)
  rw [symOf_P] at hb ⊢
  have CF : Hid (∀ W, Keep w W → Calls Tryz.prog 117 #[.agg #[.string o.name, q.1, q.2.1, q.2.2.1, q.2.2.2], .string n] W fun e w' => e = .returned (.tuple #[.agg #[.string (findP o n).1.name, .bool (findP o n).1.data, .int .u32 (findP o n).1.off, .bool (findP o n).1.exp], .bool (findP o n).2]) ∧ Keep W w') :=
    Lib.hid (fun W hW => (pfindO_any o _ _ _ _ n W (HO.out.keep hW) (by omega)).mono fun e w' hh => ⟨find_P hh.1, hh.2⟩)
  have HB := Lib.hid h.box
  obtain ⟨b1, off1, cap1, ve, rfl, hv, hb1, a0, a1, a2, a3, _⟩ := partsIn hn hP hp
  have HP := Lib.hid (And.intro a1 a3)
  have hcl : c < P.length := (List.getElem?_eq_some_iff.1 hp).1
  obtain ⟨⟨⟨sn, sd, so, se⟩, fb⟩, hPP⟩ : ∃ P, P = findP o n := ⟨_, rfl⟩
  rw [← hPP] at CF hb ⊢
  dsimp only at CF hb ⊢
  obtain ⟨q0, q1, q2, q3⟩ := q
  dsimp only at CO CF
  obtain ⟨np, hnp⟩ : ∃ np, np = P.length := ⟨_, rfl⟩
  obtain ⟨ca, hca⟩ : ∃ a, a = p.code.at_ := ⟨_, rfl⟩
  obtain ⟨da, hda⟩ : ∃ a, a = p.data.at_ := ⟨_, rfl⟩
  rw [← hnp] at hcl HB
  rw [← hca] at hb ⊢
  rw [← hca, ← hda] at HP
  rw [← hda] at hb ⊢
  clear hPP hsy ho H hf few HO h hn hP hp hv hnp a0 a1 a2 a3 hca hda
  cases sd with
  | true =>
    rw [if_pos rfl] at hb ⊢
    have wr : IntKind.u32.wrap (da + so) = da + so := by
      obtain ⟨h0, h1⟩ := hb
      rw [IntKind.wrap_u32]; omega
    clear hb
    go_enter Tryz.func81, Tryz.ntmps81
    go_wp2_with fail
    refine (CO.out w (Keep.refl _)).mono ?_
    rintro e w1 ⟨rfl, hk1⟩
    have K1 := Lib.hid hk1
    clear hk1
    go_wp2_with fail
    refine (CF.out w1 K1.out).mono ?_
    rintro e wf ⟨rfl, hk2⟩
    obtain ⟨w2, hw2⟩ : ∃ w2, w2 = wf.alloc (.cells #[.string sn, .bool true, .int .u32 so, .bool se] 88) := ⟨_, rfl⟩
    have K2 : Hid (Keep w w2) := Lib.hid (by rw [hw2]; exact (K1.out.trans hk2).alloc _)
    have BS : Hid (Box w2 wf.heap.size #[.string sn, .bool true, .int .u32 so, .bool se]) := Lib.hid (by rw [hw2]; exact Box.new _ _ _)
    have cs := BS.out.cells
    rw [hw2] at cs
    have HB2 := Lib.hid (HB.out.keep K2.out)
    clear hk2
    go_wp2_with fail
    rw [← hw2]
    clear hw2 cs
    refine region_grows (Keep w2) (by kernel_rfl) (by kernel_rfl) (Keep.refl _).drew ?_
    repeat (first
      | (apply text_pass (by rfl); go_simp)
      | (apply text_step (by rfl)
         · intro W hW
           have cb := (HB2.out.keep hW).cells
           have cs := (BS.out.keep hW).cells
           have p0 := (K2.out.trans hW).cellOf HP.out.1
           have p1 := (K2.out.trans hW).cellOf HP.out.2
           go_simp
           exact ⟨rfl, hW⟩
         go_simp))
    apply text_end
    intro W3 hW3
    have K3 := Lib.hid (K2.out.trans hW3)
    clear hW3
    go_wp2_with fail
    go_ret2
    exact ⟨rfl, K3.out⟩
  | false =>
    rw [if_neg (by decide)] at hb ⊢
    have wr : IntKind.u32.wrap (ca + so) = ca + so := by
      obtain ⟨h0, h1⟩ := hb
      rw [IntKind.wrap_u32]; omega
    clear hb
    go_enter Tryz.func81, Tryz.ntmps81
    go_wp2_with fail
    refine (CO.out w (Keep.refl _)).mono ?_
    rintro e w1 ⟨rfl, hk1⟩
    have K1 := Lib.hid hk1
    clear hk1
    go_wp2_with fail
    refine (CF.out w1 K1.out).mono ?_
    rintro e wf ⟨rfl, hk2⟩
    obtain ⟨w2, hw2⟩ : ∃ w2, w2 = wf.alloc (.cells #[.string sn, .bool false, .int .u32 so, .bool se] 88) := ⟨_, rfl⟩
    have K2 : Hid (Keep w w2) := Lib.hid (by rw [hw2]; exact (K1.out.trans hk2).alloc _)
    have BS : Hid (Box w2 wf.heap.size #[.string sn, .bool false, .int .u32 so, .bool se]) := Lib.hid (by rw [hw2]; exact Box.new _ _ _)
    have cs := BS.out.cells
    rw [hw2] at cs
    have HB2 := Lib.hid (HB.out.keep K2.out)
    clear hk2
    go_wp2_with fail
    rw [← hw2]
    clear hw2 cs
    refine region_grows (Keep w2) (by kernel_rfl) (by kernel_rfl) (Keep.refl _).drew ?_
    repeat (first
      | (apply text_pass (by rfl); go_simp)
      | (apply text_step (by rfl)
         · intro W hW
           have cb := (HB2.out.keep hW).cells
           have cs := (BS.out.keep hW).cells
           have p0 := (K2.out.trans hW).cellOf HP.out.1
           have p1 := (K2.out.trans hW).cellOf HP.out.2
           go_simp
           exact ⟨rfl, hW⟩
         go_simp))
    apply text_end
    intro W3 hW3
    have K3 := Lib.hid (K2.out.trans hW3)
    clear hW3
    go_wp2_with fail
    go_ret2
    exact ⟨rfl, K3.out⟩
end Go.Proofs.YtbmjnfnekmeegaaGreatDoor
