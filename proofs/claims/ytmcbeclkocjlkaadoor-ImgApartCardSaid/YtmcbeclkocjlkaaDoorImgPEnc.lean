/- The program's Encode. -/
import Derived.Test.YtmcbeclkocjlkaaDoorGIpC
import Derived.Test.YtmcbeclkocjlkaaDoorImgPChk
import Derived.Test.YtmcbeclkocjlkaaDoorImgC
import Derived.Test.YtmcbeclkocjlkaaDoorGImgF
import Derived.Test.YtmcbeclkocjlkaaDoorImgPCa
import Derived.Lib.SlBytesConst
namespace Go.Proofs.YtmcbeclkocjlkaaDoor
set_option linter.unusedVariables false
set_option linter.unusedSimpArgs false
open Go Go.RowKit
/-- The literal that an image begins with, marked. -/
def headI (W1 : World) : World := W1.alloc (.cells #[.int .u8 72, .int .u8 73, .int .u8 77, .int .u8 71] 5 (4, 5))
theorem headI_keep (W1 : World) : Keep W1 (headI W1) := (Keep.refl _).alloc _
theorem headI_size (W1 : World) : (headI W1).heap.size = W1.heap.size + 1 := by unfold headI; simp
theorem headI_cells (W1 : World) : ∀ j u, (himg.map byteV)[j]? = some u → (headI W1).cell? ⟨W1.heap.size, j, none⟩ = some u := fun j u hj => by
  have h : (headI W1).heap[W1.heap.size]? = some (.cells #[.int .u8 72, .int .u8 73, .int .u8 77, .int .u8 71] 5 (4, 5)) := heap_alloc_new _ _
  simp only [World.cell?, h]
  rw [← hj]
  match j with
  | 0 => rfl
  | 1 => rfl
  | 2 => rfl
  | 3 => rfl
  | j + 4 => rfl
theorem headI_conv (W1 : World) : (convert 26 26 (.slice (some ⟨W1.heap.size, 0, none⟩) 4 4)).run Tryd.prog (W1.alloc (.cells #[.int .u8 72, .int .u8 73, .int .u8 77, .int .u8 71] 5)) = .ok (.slice (some ⟨W1.heap.size, 0, none⟩) 4 4) (headI W1) :=
  Lib.run_convert_bytes_const W1 26 5 _ 4 4 Tryd.underlying26 Tryd.underlying5
def ei1 (i : ImgV) : List Nat := himg ++ (num4 i.size.toNat ++ num4 i.parts.length)
def ei2 (i : ImgV) : List Nat := ei1 i ++ i.parts.flatMap partB
def ei3 (i : ImgV) : List Nat := ei2 i ++ num4 i.shares.length
def ei4 (i : ImgV) : List Nat := ei3 i ++ i.shares.flatMap spanB
def ei5 (i : ImgV) : List Nat := ei4 i ++ num4 i.inits.length
def ei6 (i : ImgV) : List Nat := ei5 i ++ i.inits.flatMap initB
def ei7 (i : ImgV) : List Nat := ei6 i ++ (num4 i.start.toNat ++ (num4 i.addr.toNat ++ num4 i.bytes.length))
theorem ei8 (i : ImgV) : encI i = ei7 i ++ i.bytes := by
  unfold encI ei7 ei6 ei5 ei4 ei3 ei2 ei1
  simp [List.append_assoc]
theorem ei_lens {i : ImgV} (h : (encI i).length ≤ 20000) : (ei2 i).length ≤ 20000 ∧ (ei4 i).length ≤ 20000 ∧ (ei6 i).length ≤ 20000 ∧ (ei7 i).length ≤ 20000 ∧ (ei1 i).length ≤ 20000 ∧ (ei3 i).length ≤ 20000 ∧ (ei5 i).length ≤ 20000 := by
  have e := congrArg List.length (ei8 i)
  unfold ei7 ei6 ei5 ei4 ei3 ei2 at e ⊢
  simp only [List.length_append] at e ⊢
  omega
/-- What Encode answers. -/
def IEncR (i : ImgV) (w : World) (e : Ending) (w' : World) : Prop := Keep w w' ∧ ∃ p n cap u, e = .returned (.tuple #[.slice p n cap, u]) ∧ OErr w' u (imgW i) ∧ ((imgW i).2.2 = 0 → n = (encI i).length ∧ SlAt w' (.slice p n cap) n ((encI i).map byteV))
theorem IEncR.bad {i : ImgV} {w w' : World} {u : Value} (k : Keep w w') (h : OErr w' u (imgW i)) (hz : (imgW i).2.2 ≠ 0) : IEncR i w (.returned (.tuple #[.slice none 0 0, u])) w' := ⟨k, none, 0, 0, u, rfl, h, fun e => absurd e hz⟩
theorem IEncR.fine {i : ImgV} {w W1 w' : World} {v : Value} (k : Keep w W1) (h : EncAt W1 w' v (encI i)) (hl : (encI i).length ≤ 1000000) (ho : OErr w' .nilIface (imgW i)) : IEncR i w (.returned (.tuple #[v, .nilIface])) w' := by
  obtain ⟨p, cap, rfl, hs⟩ := h.slice hl
  exact ⟨k.trans h.2, p, _, cap, _, rfl, ho, fun _ => ⟨rfl, hs⟩⟩
set_option maxHeartbeats 16000000 in
set_option maxRecDepth 100000 in
theorem iEncode_aux (i : ImgV) (vp vs vi vb : Value) (ves : List Value) (w : World) (h : ImgAt w i vp vs vi vb ves) (hn : ImgNum i) (hf : ImgFew i) (hp : ErrT w) : Calls Tryd.prog 7 #[imgVal i vp vs vi vb] w (IEncR i w) := by
  obtain ⟨i0, hi0, hz0, hz1, hz2⟩ := oinfo_parts infoU8
  have HO := Lib.hid h
  have HN := Lib.hid hn
  have HF := Lib.hid hf
  obtain ⟨pq, pc, rfl, hpc, _, _⟩ := h.partsAt
  obtain ⟨sq, sc, rfl, _, _, _⟩ := h.sharesAt
  obtain ⟨iq, ic, rfl, _, _, _⟩ := h.initsAt
  obtain ⟨bq, bc, rfl, _⟩ := h.bytes
  obtain ⟨W0, hW0⟩ : ∃ W0, W0 = w.alloc (.cells #[.int .u32 i.size, .slice pq i.parts.length pc, .slice sq i.shares.length sc, .slice iq i.inits.length ic, .int .i64 i.start, .int .u32 i.addr, .slice bq i.bytes.length bc] 28) := ⟨_, rfl⟩
  have K0 : Hid (Keep w W0) := Lib.hid (by rw [hW0]; exact (Keep.refl _).alloc _)
  have BO : Hid (Box W0 w.heap.size #[.int .u32 i.size, .slice pq i.parts.length pc, .slice sq i.shares.length sc, .slice iq i.inits.length ic, .int .i64 i.start, .int .u32 i.addr, .slice bq i.bytes.length bc]) := Lib.hid (by rw [hW0]; exact Box.new _ _ _)
  have CC := Lib.hid (icheck_any i _ _ _ _ ves W0 (h.keep K0.out) hf.mid hn (hp.keep K0.out))
  unfold imgVal at CC ⊢
  clear h hn hf hp
  go_enter Tryd.func7, Tryd.ntmps7
  go_wp2_with fail
  rw [← hW0]
  clear hW0
  have co := BO.out.cells
  go_wp2_with fail
  refine CC.out.mono ?_
  rintro e W1 ⟨u, rfl, hu, hk⟩
  have HU := Lib.hid hu
  have K1 := Lib.hid (K0.out.trans hk)
  have BO1 := Lib.hid (BO.out.keep hk)
  clear hk co CC BO K0
  by_cases z : (imgW i).2.2 = 0
  rotate_left
  · obtain ⟨q, rfl⟩ := hu.bad z
    have Z := Lib.hid z
    clear hu z
    unfold faultP
    go_wp2_with fail
    go_ret2
    exact IEncR.bad K1.out HU.out Z.out
  obtain rfl : u = .nilIface := hu.good z
  have OK := Lib.hid ((imgW_may z).ok HN.out)
  have EL := Lib.hid (encI_lt HN.out OK.out HF.out)
  have LN := Lib.hid (ei_lens EL.out.2.1)
  clear hu z
  obtain ⟨sz, hsz⟩ : ∃ n : Nat, i.size = (n : Int) := ⟨i.size.toNat, by have := HN.out.size.1; omega⟩
  obtain ⟨st, hst⟩ : ∃ n : Nat, i.start = (n : Int) := ⟨i.start.toNat, by have := OK.out.start.1; omega⟩
  obtain ⟨ad, had⟩ : ∃ n : Nat, i.addr = (n : Int) := ⟨i.addr.toNat, by have := HN.out.addr.1; omega⟩
  have hst0 : i.start.toNat = st := by omega
  have had0 : i.addr.toNat = ad := by omega
  have hsz0 : i.size.toNat = sz := by omega
  have HNB : Hid (sz < 4294967296 ∧ st ≤ 2147483647 ∧ ad < 4294967296 ∧ i.parts.length ≤ 12 ∧ i.shares.length ≤ 12 ∧ i.inits.length ≤ 60 ∧ i.bytes.length ≤ 2000) := Lib.hid ⟨by have := HN.out.size.2; omega, by have := OK.out.start.2; omega, by have := HN.out.addr.2; omega, HF.out.parts, HF.out.shares, HF.out.inits, HF.out.bytes⟩
  have wc : IntKind.u32.wrap (i.parts.length : Int) = (i.parts.length : Int) := IntWalk.u32_in _ (by have := HNB.out; omega)
  have wd : IntKind.u32.wrap (i.shares.length : Int) = (i.shares.length : Int) := IntWalk.u32_in _ (by have := HNB.out; omega)
  have we : IntKind.u32.wrap (i.inits.length : Int) = (i.inits.length : Int) := IntWalk.u32_in _ (by have := HNB.out; omega)
  have wf : IntKind.u32.wrap (i.bytes.length : Int) = (i.bytes.length : Int) := IntWalk.u32_in _ (by have := HNB.out; omega)
  have wg : IntKind.u32.wrap (st : Int) = (st : Int) := IntWalk.u32_in _ (by have := HNB.out; omega)
  rw [hsz, hst, had] at BO1
  have fp := HNB.out
  have cvs := headI_conv W1
  have co := (BO1.out.keep (headI_keep W1)).cells
  clear hsz hst had fp
  go_wp2_with fail
  obtain ⟨Wl, hWl⟩ : ∃ Wl, Wl = (headI W1).alloc (.cells #[.int .u32 (sz : Int), .int .u32 (i.parts.length : Int)] 22) := ⟨_, rfl⟩
  have KL : Hid (Keep (headI W1) Wl) := Lib.hid (by rw [hWl]; exact (Keep.refl _).alloc _)
  have BLN : Hid (Box Wl (headI W1).heap.size #[.int .u32 (sz : Int), .int .u32 (i.parts.length : Int)]) := Lib.hid (by rw [hWl]; exact Box.new _ _ _)
  rw [← hWl]
  clear hWl co cvs
  refine (inumsF_any W1.heap.size W1.heap.size (headI W1).heap.size himg sz i.parts.length (by have := HNB.out; omega) (by have := HNB.out; omega) (by decide) (by decide) Wl (Nat.le_trans (headI_keep W1).size KL.out.size) (fun j u hj => KL.out.cellOf (headI_cells W1 j u hj)) BLN.out).mono ?_
  rintro e w2 ⟨v2, rfl, h2, hk2⟩
  have E1 : Hid (EncAt W1 w2 v2 (ei1 i)) := Lib.hid ⟨by unfold ei1; rw [hsz0]; exact h2, ((headI_keep W1).trans KL.out).trans hk2⟩
  clear hk2 h2 KL BLN
  have co := (BO1.out.keep E1.out.2).cells
  go_wp2_with fail
  clear co
  go_loopw [5, 7, 30] (fun b _ ii wr => ∃ k : Nat, k ≤ i.parts.length ∧ ii = .int .i64 (k : Int) ∧ EncAt W1 wr b (ei1 i ++ (i.parts.take k).flatMap partB)) (fun _ _ ii _ => i.parts.length - (intOf ii).toNat)
  case atStart => exact ⟨0, Nat.zero_le _, rfl, by simpa using E1.out⟩
  case round =>
    obtain ⟨k, hk, rfl, hE⟩ := hrel
    have HE := Lib.hid hE
    clear hE
    by_cases hlt : k < i.parts.length
    · obtain ⟨s, hs⟩ : ∃ s, i.parts[k]? = some s := ⟨_, List.getElem?_eq_getElem hlt⟩
      have hki : (k : Int) < (i.parts.length : Int) := by omega
      have fk : k + 1 ≤ 1000000 := by have := HNB.out; omega
      have HM := Lib.hid (List.mem_of_getElem? hs)
      obtain ⟨b, off, ve, hq, he, c0, c1, c2, c3, c4, c5, c6, c7⟩ := (HO.out.keep (K1.out.trans HE.out.2)).part8 hs
      have HV := Lib.hid (show SlAt W1 ve s.entries.length (s.entries.map u32V) from by
        obtain ⟨b', off', ve', hq', he', _, _, _, _, _, _, _, c7'⟩ := (HO.out.keep K1.out).part8 hs
        rw [hq] at hq'
        cases hq'
        have := HE.out.2.cellOf c7'
        rw [c7] at this
        cases this
        exact he')
      obtain ⟨ep, ec, rfl, _⟩ := he
      subst hq
      have HT := Lib.hid (take_flatN partB i.parts k s hs)
      have KA : Hid (Keep wr (wr.alloc (.cells #[.string s.name, .int .u32 s.code.at_, .int .u32 s.code.size, .int .u32 s.data.at_, .int .u32 s.data.size, .int .u32 s.stack.at_, .int .u32 s.stack.size, .slice ep s.entries.length ec] 39))) := Lib.hid ((Keep.refl _).alloc _)
      have EA := Lib.hid (HE.out.keep KA.out)
      have FL := Lib.hid (len_take_flat partB i.parts k)
      have LE := Lib.hid (show (ei1 i ++ (i.parts.take k).flatMap partB).length ≤ 20000 by
        rw [List.length_append]
        have := FL.out
        have := LN.out
        unfold ei6 ei4 ei2 at this
        simp only [List.length_append] at this
        omega)
      have CP := Lib.hid (ipartB_any W1 W1.heap.size u5 (.slice ep s.entries.length ec) (ei1 i ++ (i.parts.take k).flatMap partB) s (OK.out.parts s HM.out) (by have := HF.out.names s HM.out; omega) (by have := LE.out; omega) _ EA.out.2.size EA.out.1 EA.out.2 (Nat.le_refl _) HV.out)
      clear hs
      go_wp2_with fail
      refine CP.out.mono ?_
      intro e w2 hp
      obtain ⟨v2, rfl, h2⟩ := EA.out.put hp
      have HE2 := Lib.hid h2
      clear hp h2 CP
      go_wp2_with fail
      go_roundw
      case rel => exact ⟨k + 1, hlt, by go_num, by rw [HT.out]; simpa [List.append_assoc] using HE2.out⟩
      case measure => simp [intOf]; omega
    · obtain rfl : k = i.parts.length := by omega
      have E2 : Hid (EncAt W1 wr u5 (ei2 i)) := Lib.hid (by have h := HE.out; rw [List.take_length] at h; exact h)
      clear HE
      have co := (BO1.out.keep E2.out.2).cells
      go_wp2_with fail
      obtain ⟨Wl, hWl⟩ : ∃ Wl, Wl = wr.alloc (.cells #[.int .u32 (i.shares.length : Int)] 22) := ⟨_, rfl⟩
      have KL : Hid (Keep wr Wl) := Lib.hid (by rw [hWl]; exact (Keep.refl _).alloc _)
      have BLN : Hid (Box Wl wr.heap.size #[.int .u32 (i.shares.length : Int)]) := Lib.hid (by rw [hWl]; exact Box.new _ _ _)
      have EL1 := Lib.hid (E2.out.keep KL.out)
      have NE := Lib.hid (show Value.ownBlock _ ≠ some wr.heap.size from fun e => by have := (E2.out.1.lt _ e).2; omega)
      rw [← hWl]
      clear hWl co
      refine (inums_any W1.heap.size _ _ [i.shares.length] (by intro n hn; have := HNB.out; simp at hn; omega) (by simp) (by have := LN.out; omega) Wl EL1.out.2.size EL1.out.1 _ (numsIn_box BLN.out NE.out rfl)).mono ?_
      intro e wq hp
      obtain ⟨vq, rfl, h2⟩ := EL1.out.put hp
      have E3 : Hid (EncAt W1 wq vq (ei3 i)) := Lib.hid (by simpa [ei3, List.append_assoc] using h2)
      clear hp h2 NE EL1 BLN KL
      have co := (BO1.out.keep E3.out.2).cells
      go_wp2_with fail
      clear co
      go_loopw [5, 9, 48] (fun b _ ii wr => ∃ k : Nat, k ≤ i.shares.length ∧ ii = .int .i64 (k : Int) ∧ EncAt W1 wr b (ei3 i ++ (i.shares.take k).flatMap spanB)) (fun _ _ ii _ => i.shares.length - (intOf ii).toNat)
      case atStart => exact ⟨0, Nat.zero_le _, rfl, by simpa using E3.out⟩
      case round =>
        obtain ⟨k, hk, rfl, hE⟩ := hrel
        have HE := Lib.hid hE
        clear hE
        by_cases hlt : k < i.shares.length
        · obtain ⟨s, hs⟩ : ∃ s, i.shares[k]? = some s := ⟨_, List.getElem?_eq_getElem hlt⟩
          have hki : (k : Int) < (i.shares.length : Int) := by omega
          have fk : k + 1 ≤ 1000000 := by have := HNB.out; omega
          have HM := Lib.hid (List.mem_of_getElem? hs)
          obtain ⟨p', cap', e0, _, _, hpp⟩ := (HO.out.keep (K1.out.trans HE.out.2)).sharesAt
          obtain ⟨rfl, _, rfl⟩ := Value.slice.inj e0
          rcases hpp with e | ⟨b, off, rfl, _, hcl⟩
          · rw [e] at hs; simp at hs
          obtain ⟨c0, c1⟩ := hcl k s hs
          clear hcl
          have HT := Lib.hid (take_flatN spanB i.shares k s hs)
          have KA : Hid (Keep wr (wr.alloc (.cells #[.int .u32 s.at_, .int .u32 s.size] 36))) := Lib.hid ((Keep.refl _).alloc _)
          have EA := Lib.hid (HE.out.keep KA.out)
          have FL := Lib.hid (len_take_flat spanB i.shares k)
          have LE := Lib.hid (show (ei3 i ++ (i.shares.take k).flatMap spanB).length ≤ 20000 by
            rw [List.length_append]
            have := FL.out
            have := LN.out
            unfold ei6 ei4 ei2 at this
            simp only [List.length_append] at this
            omega)
          have CP := Lib.hid (ispanB_any W1.heap.size u5 (ei3 i ++ (i.shares.take k).flatMap spanB) s (OK.out.shares s HM.out) (by have := LE.out; omega) _ EA.out.2.size EA.out.1)
          clear hs
          go_wp2_with fail
          refine CP.out.mono ?_
          intro e w2 hp
          obtain ⟨v2, rfl, h2⟩ := EA.out.put hp
          have HE2 := Lib.hid h2
          clear hp h2 CP
          go_wp2_with fail
          go_roundw
          case rel => exact ⟨k + 1, hlt, by go_num, by rw [HT.out]; simpa [List.append_assoc] using HE2.out⟩
          case measure => simp [intOf]; omega
        · obtain rfl : k = i.shares.length := by omega
          have E4 : Hid (EncAt W1 wr u5 (ei4 i)) := Lib.hid (by have h := HE.out; rw [List.take_length] at h; exact h)
          clear HE
          have co := (BO1.out.keep E4.out.2).cells
          go_wp2_with fail
          obtain ⟨Wl, hWl⟩ : ∃ Wl, Wl = wr.alloc (.cells #[.int .u32 (i.inits.length : Int)] 22) := ⟨_, rfl⟩
          have KL : Hid (Keep wr Wl) := Lib.hid (by rw [hWl]; exact (Keep.refl _).alloc _)
          have BLN : Hid (Box Wl wr.heap.size #[.int .u32 (i.inits.length : Int)]) := Lib.hid (by rw [hWl]; exact Box.new _ _ _)
          have EL1 := Lib.hid (E4.out.keep KL.out)
          have NE := Lib.hid (show Value.ownBlock _ ≠ some wr.heap.size from fun e => by have := (E4.out.1.lt _ e).2; omega)
          rw [← hWl]
          clear hWl co
          refine (inums_any W1.heap.size _ _ [i.inits.length] (by intro n hn; have := HNB.out; simp at hn; omega) (by simp) (by have := LN.out; omega) Wl EL1.out.2.size EL1.out.1 _ (numsIn_box BLN.out NE.out rfl)).mono ?_
          intro e wq hp
          obtain ⟨vq, rfl, h2⟩ := EL1.out.put hp
          have E5 : Hid (EncAt W1 wq vq (ei5 i)) := Lib.hid (by simpa [ei5, List.append_assoc] using h2)
          clear hp h2 NE EL1 BLN KL
          have co := (BO1.out.keep E5.out.2).cells
          go_wp2_with fail
          clear co
          go_loopw [5, 11, 66] (fun b _ ii wr => ∃ k : Nat, k ≤ i.inits.length ∧ ii = .int .i64 (k : Int) ∧ EncAt W1 wr b (ei5 i ++ (i.inits.take k).flatMap initB)) (fun _ _ ii _ => i.inits.length - (intOf ii).toNat)
          case atStart => exact ⟨0, Nat.zero_le _, rfl, by simpa using E5.out⟩
          case round =>
            obtain ⟨k, hk, rfl, hE⟩ := hrel
            have HE := Lib.hid hE
            clear hE
            by_cases hlt : k < i.inits.length
            · obtain ⟨s, hs⟩ : ∃ s, i.inits[k]? = some s := ⟨_, List.getElem?_eq_getElem hlt⟩
              have hki : (k : Int) < (i.inits.length : Int) := by omega
              have fk : k + 1 ≤ 1000000 := by have := HNB.out; omega
              have HM := Lib.hid (List.mem_of_getElem? hs)
              obtain ⟨p', cap', e0, _, _, hpp⟩ := (HO.out.keep (K1.out.trans HE.out.2)).initsAt
              obtain ⟨rfl, _, rfl⟩ := Value.slice.inj e0
              rcases hpp with e | ⟨b, off, rfl, _, hcl⟩
              · rw [e] at hs; simp at hs
              obtain ⟨c0, c1, c2, c3, c4, c5, c6⟩ := hcl k s hs
              clear hcl
              have HT := Lib.hid (take_flatN initB i.inits k s hs)
              have KA : Hid (Keep wr (wr.alloc (.cells #[.int .i64 s.comp, .int .u32 s.at_, .int .i64 s.kind, .bool s.data, .int .i64 s.src, .int .u32 s.addr, .int .u16 s.perm] 43))) := Lib.hid ((Keep.refl _).alloc _)
              have EA := Lib.hid (HE.out.keep KA.out)
              have FL := Lib.hid (len_take_flat initB i.inits k)
              have LE := Lib.hid (show (ei5 i ++ (i.inits.take k).flatMap initB).length ≤ 20000 by
                rw [List.length_append]
                have := FL.out
                have := LN.out
                unfold ei6 ei4 ei2 at this
                simp only [List.length_append] at this
                omega)
              have CP := Lib.hid (iinitB_any W1.heap.size u5 (ei5 i ++ (i.inits.take k).flatMap initB) s (OK.out.inits s HM.out) (by have := LE.out; omega) _ EA.out.2.size EA.out.1)
              clear hs
              go_wp2_with fail
              refine CP.out.mono ?_
              intro e w2 hp
              obtain ⟨v2, rfl, h2⟩ := EA.out.put hp
              have HE2 := Lib.hid h2
              clear hp h2 CP
              go_wp2_with fail
              go_roundw
              case rel => exact ⟨k + 1, hlt, by go_num, by rw [HT.out]; simpa [List.append_assoc] using HE2.out⟩
              case measure => simp [intOf]; omega
            · obtain rfl : k = i.inits.length := by omega
              have E6 : Hid (EncAt W1 wr u5 (ei6 i)) := Lib.hid (by have h := HE.out; rw [List.take_length] at h; exact h)
              clear HE
              have co := (BO1.out.keep E6.out.2).cells
              go_wp2_with fail
              obtain ⟨Wl, hWl⟩ : ∃ Wl, Wl = wr.alloc (.cells #[.int .u32 (st : Int), .int .u32 (ad : Int), .int .u32 (i.bytes.length : Int)] 22) := ⟨_, rfl⟩
              have KL : Hid (Keep wr Wl) := Lib.hid (by rw [hWl]; exact (Keep.refl _).alloc _)
              have BLN : Hid (Box Wl wr.heap.size #[.int .u32 (st : Int), .int .u32 (ad : Int), .int .u32 (i.bytes.length : Int)]) := Lib.hid (by rw [hWl]; exact Box.new _ _ _)
              have EL1 := Lib.hid (E6.out.keep KL.out)
              have NE := Lib.hid (show Value.ownBlock _ ≠ some wr.heap.size from fun e => by have := (E6.out.1.lt _ e).2; omega)
              rw [← hWl]
              clear hWl co
              refine (inums_any W1.heap.size _ _ [st, ad, i.bytes.length] (by intro n hn; have := HNB.out; simp at hn; omega) (by simp) (by have := LN.out; omega) Wl EL1.out.2.size EL1.out.1 _ (numsIn_box BLN.out NE.out rfl)).mono ?_
              intro e wq hp
              obtain ⟨vq, rfl, h2⟩ := EL1.out.put hp
              have E7 : Hid (EncAt W1 wq vq (ei7 i)) := Lib.hid (by simpa [ei7, hst0, had0, List.append_assoc] using h2)
              clear hp h2 NE EL1 BLN KL
              have co := (BO1.out.keep E7.out.2).cells
              have SB := Lib.hid (SlAt.src (P := Tryd.prog) Tryd.underlying26 (HO.out.bytes.keep (K1.out.trans E7.out.2)))
              go_wp2_with (at_builtin; (refine wpList_append_src_at rfl _ _ 26 26 rfl W1.heap.size 5 i0 _ 1 1 Tryd.underlying26 hi0 hz0 hz1 hz2 rfl _ _ _ rfl E7.out.1 _ i.bytes.length (i.bytes.map byteV) rfl SB.out ?e1 ?f1 ?g1 ?_))
              case e1 => have := LN.out; have := HF.out.bytes; unfold maxLen; omega
              case f1 => have := LN.out; have := HF.out.bytes; omega
              case g1 => exact E7.out.2.size
              intro v8 w8 hown hgrow hblk
              have E8 : Hid (EncAt W1 w8 v8 (encI i)) := Lib.hid ⟨by
                unfold Own8
                rw [ei8, List.length_append, List.map_append]
                exact hown, grow_keep0 E7.out.2 hgrow (fun g hg => (E7.out.1.lt g hg).1)⟩
              clear hown hgrow hblk co
              go_wp2_with fail
              go_ret2
              exact IEncR.fine K1.out E8.out (by have := EL.out.2.1; omega) (OErr.keep HU.out E8.out.2)
theorem iEncode : PImgEncode ErrT := fun i vp vs vi vb ves w h hn hf hp => iEncode_aux i vp vs vi vb ves w h hn hf hp
end Go.Proofs.YtmcbeclkocjlkaaDoor
