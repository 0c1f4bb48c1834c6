/- ImgPEy, ImgPEs: The program's entry. -/
import Derived.Test.YtmcbeclkocjlkaaDoorGIpD
import Derived.Test.YtmcbeclkocjlkaaDoorImgEnt
import Derived.Test.YtmcbeclkocjlkaaDoorGPlainI
/- The program's entry. -/
namespace Go.Proofs.YtmcbeclkocjlkaaDoor
set_option linter.unusedVariables false
set_option linter.unusedSimpArgs false
open Go Go.RowKit
/-- What is wrong of an entry of a part. -/
def entP (p : PartV) (k : Nat) (e : Int) : Int := entF (decide (e % 4 ≠ 0)) (withinS p.code e 4) (prevE p.entries k e)
theorem within_four {s : SpanV} {e : Int} (h1 : s.at_ % 16 = 0) (h2 : s.size % 16 = 0) (h3 : e % 4 = 0) : withinS s e 4 = withinS s e 1 := by
  unfold withinS
  rw [Bool.eq_iff_iff]
  simp only [Bool.and_eq_true, decide_eq_true_eq]
  omega
theorem entP_E {i : ImgV} {k j : Nat} {p : PartV} {e : Int} (h : i.parts[k]? = some p) (he : p.entries[j]? = some e) (h1 : p.code.at_ % 16 = 0) (h2 : p.code.size % 16 = 0) : entP p j e = entE i (entOff i.parts k + j) := by
  rw [entE_F h he]
  unfold entP
  by_cases c : e % 4 = 0
  · rw [within_four h1 h2 c]
  · have d : decide (e % 4 ≠ 0) = true := decide_eq_true c
    rw [d]
    rfl
set_option maxHeartbeats 4000000 in
set_option maxRecDepth 100000 in
theorem ipentry_any (p : PartV) (ep : Option Addr) (ec : Nat) (k : Nat) (e : Int) (he : p.entries[k]? = some e) (hc : SpanOk p.code) (h32 : ∀ x ∈ p.entries, N32 x) (few : p.entries.length ≤ 1000) (w : World) (hl : SlAt w (.slice ep p.entries.length ec) p.entries.length (p.entries.map u32V)) :
    Calls Tryd.prog 37 #[.agg #[.string p.name, .int .u32 p.code.at_, .int .u32 p.code.size, .int .u32 p.data.at_, .int .u32 p.data.size, .int .u32 p.stack.at_, .int .u32 p.stack.size, .slice ep p.entries.length ec], .int .i64 (k : Int)] w fun e' w' => e' = .returned (.int .i64 (entP p k e)) ∧ Keep w w' := by
  have hk := (List.getElem?_eq_some_iff.1 he).1
  have e0 := (h32 e (List.mem_of_getElem? he)).1
  have CH := Lib.hid (fun W => iholds_any p.code e 4 hc (h32 e (List.mem_of_getElem? he)) ⟨by decide, by decide⟩ W)
  obtain ⟨q, cap, hq, hcap, hcm, hc3⟩ := NumsAt.at (l := p.entries) hl
  have hq2 := Value.slice.inj hq
  obtain ⟨rfl, _, rfl⟩ := hq2
  rcases hc3 with h0 | ⟨b, off, rfl, hb, hcl⟩
  · rw [h0] at hk; simp at hk
  have n0 := hcl k e he
  obtain ⟨W0, hW0⟩ : ∃ W0, W0 = w.alloc (.cells #[.string p.name, .int .u32 p.code.at_, .int .u32 p.code.size, .int .u32 p.data.at_, .int .u32 p.data.size, .int .u32 p.stack.at_, .int .u32 p.stack.size, .slice (some ⟨b, off, none⟩) p.entries.length ec] 39) := ⟨_, rfl⟩
  have K0 : Hid (Keep w W0) := Lib.hid (by rw [hW0]; exact (Keep.refl _).alloc _)
  have B0 : Hid (Box W0 w.heap.size #[.string p.name, .int .u32 p.code.at_, .int .u32 p.code.size, .int .u32 p.data.at_, .int .u32 p.data.size, .int .u32 p.stack.at_, .int .u32 p.stack.size, .slice (some ⟨b, off, none⟩) p.entries.length ec]) := Lib.hid (by rw [hW0]; exact Box.new _ _ _)
  have N0 := Lib.hid n0
  have hki : (k : Int) < (p.entries.length : Int) := by omega
  have k0 : (0 : Int) ≤ (k : Int) := Int.natCast_nonneg _
  obtain ⟨wi, hwi⟩ : ∃ wi, withinS p.code e 4 = wi := ⟨_, rfl⟩
  obtain ⟨pv, hpv⟩ : ∃ pv, prevE p.entries k e = pv := ⟨_, rfl⟩
  rw [hwi] at CH
  obtain ⟨r, hr⟩ : ∃ r, r = entP p k e := ⟨_, rfl⟩
  rw [← hr]
  unfold entP entF at hr
  rw [hwi, hpv] at hr
  have HR := Lib.hid hr
  -- the one ahead
  have HP : Hid ((k = 0 ∧ pv = false) ∨ (∃ m d, k = m + 1 ∧ p.entries[m]? = some d ∧ pv = decide (e ≤ d) ∧ w.cell? ⟨b, off + m, none⟩ = some (.int .u32 d))) := Lib.hid (by
    cases k with
    | zero => exact .inl ⟨rfl, hpv.symm⟩
    | succ m =>
      obtain ⟨d, hd⟩ : ∃ d, p.entries[m]? = some d := ⟨_, List.getElem?_eq_getElem (by omega)⟩
      refine .inr ⟨m, d, rfl, hd, ?_, hcl m d hd⟩
      rw [← hpv]
      unfold prevE
      dsimp only
      rw [hd])
  clear hr hwi hpv hcl he hl hc h32 hq n0 hb
  have c0 := (K0.out.cellOf N0.out)
  rw [hW0] at c0
  by_cases h4 : e % 4 = 0
  rotate_left
  · have d4 : (e % 4 != 0) = true := by simpa using h4
    obtain rfl : r = 5 := HR.out.trans (by rw [decide_eq_true h4]; rfl)
    clear HR h4
    go_enter Tryd.func37, Tryd.ntmps37
    go_wp2_with fail
    go_ret
    exact ⟨rfl, by first | exact K0.out | (rw [← hW0]; exact K0.out)⟩
  have d4 : (e % 4 != 0) = false := by simpa using h4
  have HR2 : Hid (r = if wi = false then 6 else if pv = true then 13 else 0) := Lib.hid (HR.out.trans (by rw [decide_eq_false (by simpa using h4)]; rfl))
  clear HR h4
  go_enter Tryd.func37, Tryd.ntmps37
  go_wp2_with fail
  rw [← hW0]
  clear hW0 c0
  with_reducible refine (CH.out _).mono ?_
  rintro e1 w1 ⟨rfl, hk1⟩
  have HK := Lib.hid (K0.out.trans hk1)
  have cB := (B0.out.keep hk1).cells
  clear hk1 CH
  cases wi with
  | false =>
    obtain rfl : r = 6 := HR2.out.trans (if_pos rfl)
    go_wp2_with fail
    go_ret
    exact ⟨rfl, HK.out⟩
  | true =>
    have HR3 := Lib.hid (HR2.out.trans (if_neg (by decide)))
    clear HR2
    rcases HP.out with ⟨rfl, rfl⟩ | ⟨m, d, rfl, hd, hpv, hcm2⟩
    · obtain rfl : r = 0 := HR3.out
      go_wp2_with fail
      go_ret
      exact ⟨rfl, HK.out⟩
    · have c1 := HK.out.cellOf hcm2
      have hm1 : (((m + 1 : Nat) : Int)) - 1 = (m : Int) := by omega
      have hmi : (m : Int) < (p.entries.length : Int) := by omega
      have m0 : (0 : Int) ≤ (m : Int) := Int.natCast_nonneg _
      have m1 : (0 : Int) < ((m + 1 : Nat) : Int) := by omega
      by_cases hle : e ≤ d
      · have dl : decide (e ≤ d) = true := decide_eq_true hle
        obtain rfl : r = 13 := HR3.out.trans (if_pos (by rw [hpv, dl]))
        clear HP HR3 hpv hd hle hcm2
        go_wp2_with fail
        go_ret
        exact ⟨rfl, HK.out⟩
      · have dl : decide (e ≤ d) = false := decide_eq_false hle
        obtain rfl : r = 0 := HR3.out.trans (if_neg (by rw [hpv, dl]; decide))
        clear HP HR3 hpv hd hle hcm2
        go_wp2_with fail
        go_ret
        exact ⟨rfl, HK.out⟩
end Go.Proofs.YtmcbeclkocjlkaaDoor

/- The program's checkEntries. -/
namespace Go.Proofs.YtmcbeclkocjlkaaDoor
set_option linter.unusedVariables false
set_option linter.unusedSimpArgs false
open Go Go.RowKit
theorem ents_bound {i : ImgV} (hm : ImgMid i) : (entsI i).length ≤ 1000000 := by
  have h : ∀ l : List PartV, (∀ p ∈ l, p.entries.length ≤ 1000) → (l.map fun p => p.entries.length).sum ≤ l.length * 1000 := by
    intro l
    induction l with
    | nil => intro _; simp
    | cons p l ih =>
      intro h
      have h1 := h p (by simp)
      have h2 := ih (fun q hq => h q (by simp [hq]))
      simp only [List.map_cons, List.sum_cons, List.length_cons]
      omega
  have h1 := h i.parts hm.ents
  have h2 := hm.parts
  unfold entsI
  rw [ents_len]
  omega
theorem code_mod {i : ImgV} (hS : ∀ k, k < (spansI i).length → spanE i k = 0) {p : PartV} (hp : p ∈ i.parts) : p.code.at_ % 16 = 0 ∧ p.code.size % 16 = 0 := by
  have hs : p.code ∈ spansI i := by
    unfold spansI
    simp only [List.mem_append, List.mem_flatMap, List.mem_cons, List.not_mem_nil, or_false]
    exact .inl ⟨p, hp, .inl rfl⟩
  obtain ⟨k, hk, e⟩ := List.mem_iff_getElem.1 hs
  have h := hS k hk
  unfold spanE at h
  rw [List.getElem?_eq_getElem hk, e] at h
  dsimp only at h
  by_cases c : p.code.at_ % 16 ≠ 0 ∨ p.code.size % 16 ≠ 0
  · rw [if_pos c] at h; exact absurd h (by decide)
  · omega
set_option maxHeartbeats 4000000 in
set_option maxRecDepth 100000 in
theorem icheckEnts_any (i : ImgV) (vp vs vi vb : Value) (ves : List Value) (w : World) (h : ImgAt w i vp vs vi vb ves) (hn : ImgNum i) (hm : ImgMid i) (hS : ∀ k, k < (spansI i).length → spanE i k = 0) :
    Calls Tryd.prog 16 #[imgVal i vp vs vi vb] w (IChk w (fstW entryT (entsI i).length (entE i))) := by
  have HO := Lib.hid h
  have HN := Lib.hid hn
  have HM := Lib.hid hm
  have HS := Lib.hid hS
  have nves := h.nves
  obtain ⟨pq, pc, rfl, hpc, _, hpp⟩ := h.partsAt
  have HPP := Lib.hid hpp
  have fp := hm.parts
  have NB := Lib.hid (ents_bound hm)
  unfold imgVal
  obtain ⟨W0, hW0⟩ : ∃ W0, W0 = w.alloc (.cells #[.int .u32 i.size, .slice pq i.parts.length pc, vs, vi, .int .i64 i.start, .int .u32 i.addr, vb] 28) := ⟨_, rfl⟩
  have K0 : Hid (Keep w W0) := Lib.hid (by rw [hW0]; exact (Keep.refl _).alloc _)
  clear h hn hm hS hpp
  go_enter Tryd.func16, Tryd.ntmps16
  go_wp2_with fail
  rw [← hW0]
  clear hW0
  go_loopw [3, 5, 6, 7, 11] (fun a _ _ _ ii wr => ∃ j : Nat, j ≤ i.parts.length ∧ ii = .int .i64 (j : Int) ∧ a = .int .i64 (entOff i.parts j : Int) ∧ entOff i.parts j ≤ (entsI i).length ∧ firstE (entE i) (entsI i).length 0 = firstE (entE i) ((entsI i).length - entOff i.parts j) (entOff i.parts j) ∧ Keep w wr) (fun _ _ _ _ ii _ => i.parts.length - (intOf ii).toNat)
  case atStart => exact ⟨0, Nat.zero_le _, rfl, rfl, Nat.zero_le _, rfl, K0.out⟩
  case round =>
    obtain ⟨j, hj, rfl, rfl, hle, hfi, hK⟩ := hrel
    have HLE := Lib.hid hle
    have HFI := Lib.hid hfi
    have HK := Lib.hid hK
    clear hle hfi hK
    by_cases hlt : j < i.parts.length
    · have hji : (j : Int) < (i.parts.length : Int) := by omega
      obtain ⟨x, hx⟩ : ∃ x, i.parts[j]? = some x := ⟨_, List.getElem?_eq_getElem hlt⟩
      obtain ⟨ve, hve⟩ : ∃ ve, ves[j]? = some ve := ⟨_, List.getElem?_eq_getElem (by omega)⟩
      have HX := Lib.hid hx
      have HEF := Lib.hid (HO.out.ents j x ve hx hve)
      obtain ⟨ep, ec, hvf, _⟩ := HEF.out
      subst hvf
      obtain ⟨b, off, hp, hb, hcl⟩ : ∃ b off, pq = some ⟨b, off, none⟩ ∧ b < w.heap.size ∧ _ := by
        rcases HPP.out with e | e
        · rw [e] at hx; simp at hx
        · exact e
      have hcl := hcl j x _ hx hve
      have c0 := HK.out.cellOf hcl.1
      have c1 := HK.out.cellOf hcl.2.1
      have c2 := HK.out.cellOf hcl.2.2.1
      have c3 := HK.out.cellOf hcl.2.2.2.1
      have c4 := HK.out.cellOf hcl.2.2.2.2.1
      have c5 := HK.out.cellOf hcl.2.2.2.2.2.1
      have c6 := HK.out.cellOf hcl.2.2.2.2.2.2.1
      have c7 := HK.out.cellOf hcl.2.2.2.2.2.2.2
      subst hp
      obtain ⟨a, ha⟩ : ∃ a, entOff i.parts j = a := ⟨_, rfl⟩
      have HA := Lib.hid ha
      rw [ha] at HFI HLE ⊢
      have HM2 := Lib.hid (code_mod HS.out (List.mem_of_getElem? hx))
      have HEN := Lib.hid (HN.out.ents x (List.mem_of_getElem? hx))
      have HCO : Hid (SpanOk x.code) := Lib.hid (HN.out.spans _ (by
        unfold spansI
        simp only [List.mem_append, List.mem_flatMap, List.mem_cons, List.not_mem_nil, or_false]
        exact .inl ⟨x, List.mem_of_getElem? hx, .inl rfl⟩))
      have fe := HM.out.ents x (List.mem_of_getElem? hx)
      have AN := Lib.hid (show a + x.entries.length ≤ (entsI i).length by
        rcases Nat.eq_zero_or_pos x.entries.length with z | z
        · have := HLE.out; omega
        · have := entOff_lt hx (j := x.entries.length - 1) (by omega); omega)
      obtain ⟨Wp, hWp⟩ : ∃ Wp, Wp = wr.alloc (.cells #[.string x.name, .int .u32 x.code.at_, .int .u32 x.code.size, .int .u32 x.data.at_, .int .u32 x.data.size, .int .u32 x.stack.at_, .int .u32 x.stack.size, .slice ep x.entries.length ec] 39) := ⟨_, rfl⟩
      have KP : Hid (Keep w Wp) := Lib.hid (by rw [hWp]; exact HK.out.alloc _)
      have BP : Hid (Box Wp wr.heap.size #[.string x.name, .int .u32 x.code.at_, .int .u32 x.code.size, .int .u32 x.data.at_, .int .u32 x.data.size, .int .u32 x.stack.at_, .int .u32 x.stack.size, .slice ep x.entries.length ec]) := Lib.hid (by rw [hWp]; exact Box.new _ _ _)
      clear hcl hve hx ha hb
      go_wp2_with fail
      rw [← hWp]
      obtain ⟨bP, hbP⟩ : ∃ bP, bP = wr.heap.size := ⟨_, rfl⟩
      rw [← hbP] at BP ⊢
      clear hWp hbP c0 c1 c2 c3 c4 c5 c6 c7
      go_loopw [6, 7, 18] (fun _ _ ii w2 => ∃ m : Nat, m ≤ x.entries.length ∧ ii = .int .i64 (m : Int) ∧ firstE (entE i) (entsI i).length 0 = firstE (entE i) ((entsI i).length - (a + m)) (a + m) ∧ Keep w w2 ∧ Box w2 bP #[.string x.name, .int .u32 x.code.at_, .int .u32 x.code.size, .int .u32 x.data.at_, .int .u32 x.data.size, .int .u32 x.stack.at_, .int .u32 x.stack.size, .slice ep x.entries.length ec]) (fun _ _ ii _ => x.entries.length - (intOf ii).toNat)
      case atStart => exact ⟨0, Nat.zero_le _, rfl, HFI.out, KP.out, BP.out⟩
      case round =>
        rename_i w2_
        obtain ⟨m, hm, rfl, hfi, hK, hB⟩ := hrel
        have HF2 := Lib.hid hfi
        have HK2 := Lib.hid hK
        have HB2 := Lib.hid hB
        clear hfi hK hB
        have cB := HB2.out.cells
        by_cases hlm : m < x.entries.length
        · have hmi : (m : Int) < (x.entries.length : Int) := by omega
          obtain ⟨e, he⟩ : ∃ e, x.entries[m]? = some e := ⟨_, List.getElem?_eq_getElem hlm⟩
          have CE := Lib.hid (fun W (kw : Keep w W) => ipentry_any x ep ec m e he HCO.out HEN.out fe W (HEF.out.keep kw))
          have EE := Lib.hid (show entP x m e = entE i (a + m) from by rw [← HA.out]; exact entP_E HX.out he HM2.out.1 HM2.out.2)
          have hlN : a + m < (entsI i).length := by have := AN.out; omega
          have wa : IntKind.i64.wrap ((a : Int) + (m : Int)) = ((a + m : Nat) : Int) := by have := NB.out; rw [IntKind.wrap_i64]; omega
          obtain ⟨se, hse⟩ : ∃ se, entP x m e = se := ⟨_, rfl⟩
          rw [hse] at CE EE
          clear hse he
          by_cases z : se = 0
          · subst z
            have HN2 := Lib.hid (HF2.out.trans (first_go hlN EE.out.symm))
            clear hlN
            go_wp2_with fail
            refine (CE.out _ HK2.out).mono ?_
            rintro e1 w3 ⟨rfl, hk3⟩
            have HK3 := Lib.hid (HK2.out.trans hk3)
            have HB3 := Lib.hid (HB2.out.keep hk3)
            clear hk3 cB CE
            go_wp2_with fail
            refine (ifault_zero _ _ _).mono ?_
            rintro e1 w4 ⟨rfl, hk4⟩
            have HK4 := Lib.hid (HK3.out.trans hk4)
            have HB4 := Lib.hid (HB3.out.keep hk4)
            clear hk4
            go_wp2_with fail
            go_roundw
            case rel => exact ⟨m + 1, hlm, by go_num, HN2.out, HK4.out, HB4.out⟩
            case measure => simp [intOf]; omega
          · have Z := Lib.hid z
            have HH := Lib.hid (HF2.out.trans (first_hit hlN (by rw [← EE.out]; exact z)))
            clear hlN z
            go_wp2_with fail
            refine (CE.out _ HK2.out).mono ?_
            rintro e1 w3 ⟨rfl, hk3⟩
            have HK3 := Lib.hid (HK2.out.trans hk3)
            clear hk3 cB CE
            go_wp2_with fail
            refine (ifault_not _ _ _ Z.out _).mono ?_
            rintro e1 w4 ⟨q, rfl, _, hB, hk4⟩
            have HK4 := Lib.hid (HK3.out.trans hk4)
            have HB4 := Lib.hid hB
            clear hk4 hB
            unfold faultP
            go_wp2_with fail
            go_ret
            rw [fstW_hit HH.out, ← EE.out]
            exact IChk.bad Z.out HB4.out HK4.out
        · obtain rfl : m = x.entries.length := by omega
          have wa : IntKind.i64.wrap ((a : Int) + (x.entries.length : Int)) = ((a + x.entries.length : Nat) : Int) := by have := NB.out; have := AN.out; rw [IntKind.wrap_i64]; omega
          have ES := Lib.hid (show entOff i.parts (j + 1) = a + x.entries.length by rw [entOff_succ HX.out, HA.out])
          go_wp2_with fail
          go_roundw
          case rel => exact ⟨j + 1, hlt, by go_num, by rw [ES.out]; go_num, by rw [ES.out]; exact AN.out, by rw [ES.out]; exact HF2.out, HK2.out⟩
          case measure => simp [intOf]; omega
    · obtain rfl : j = i.parts.length := by omega
      have HE0 : Hid (firstE (entE i) (entsI i).length 0 = none) := Lib.hid (by rw [HFI.out, entOff_end, Nat.sub_self]; rfl)
      go_wp2_with fail
      go_ret
      rw [fstW_none HE0.out]
      exact IChk.nil HK.out
end Go.Proofs.YtmcbeclkocjlkaaDoor
