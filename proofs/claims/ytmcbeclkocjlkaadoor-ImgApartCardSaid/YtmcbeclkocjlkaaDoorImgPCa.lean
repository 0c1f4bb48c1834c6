/- The program's callable; a number among others; permissions. -/
import Derived.Test.YtmcbeclkocjlkaaDoorGIpD
import Derived.Test.YtmcbeclkocjlkaaDoorGPlainI
import Derived.Laws.BitsAllLaws
import Derived.Shelf.Abstract
namespace Go.Proofs.YtmcbeclkocjlkaaDoor
set_option linter.unusedVariables false
set_option linter.unusedSimpArgs false
open Go Go.RowKit
theorem and_four (a : Nat) (h : a < 65536) : (a &&& 65532) = 0 ↔ a < 4 := by
  have h1 : (a &&& 65532) / 4 = a / 4 := by
    have e := Nat.and_div_two_pow (a := a) (b := 65532) (n := 2)
    rw [show (2 : Nat) ^ 2 = 4 from rfl, show (65532 : Nat) / 4 = 2 ^ 14 - 1 from rfl, Nat.and_two_pow_sub_one_eq_mod] at e
    rw [e]
    omega
  have h2 : (a &&& 65532) % 4 = 0 := by
    have e := Nat.and_mod_two_pow (a := a) (b := 65532) (n := 2)
    rw [show (2 : Nat) ^ 2 = 4 from rfl, show (65532 : Nat) % 4 = 0 from rfl, Nat.and_zero] at e
    exact e
  omega
theorem perm_three (p : Int) (h : 0 ≤ p ∧ p < 65536) : (bits .andNot .u16 p 3 != 0) = decide (3 < p) := by
  rw [u16_andNot p 3 h.1 h.2 (by decide) (by decide)]
  have e := and_four p.toNat (by omega)
  rw [show (65535 - (3 : Int).toNat : Nat) = 65532 from rfl, Bool.eq_iff_iff, bne_iff_ne, decide_eq_true_eq]
  constructor
  · intro hz
    have : ¬ p.toNat < 4 := fun hl => hz (by rw [e.2 hl]; rfl)
    omega
  · intro hl hz
    have : p.toNat &&& 65532 = 0 := by omega
    have := e.1 this
    omega
set_option maxHeartbeats 4000000 in
set_option maxRecDepth 100000 in
theorem icontU_idx (l : List Int) (vl : Value) (x : Int) (w : World) (h : NumsAt w vl l) (few : l.length ≤ 1000000) :
    Calls Tryd.prog 79 #[vl, .int .u32 x] w fun e w' => ∃ n : Int, e = .returned (.int .i64 n) ∧ decide (0 ≤ n) = amongI l x ∧ Keep w w' := by
  obtain ⟨p, cap, rfl, hcap, _, hp⟩ := h.at
  have HP := Lib.hid hp
  clear h hp
  unfold amongI
  go_enter Tryd.func79, Tryd.ntmps79
  go_wp2_with fail
  go_loopw [5, 8] (fun _ ii wr => ∃ j : Nat, j ≤ l.length ∧ ii = .int .i64 (j : Int) ∧ ((l.take j).any fun y => decide (y = x)) = false ∧ Keep w wr) (fun _ ii _ => l.length - (intOf ii).toNat)
  case atStart => exact ⟨0, Nat.zero_le _, rfl, by simp, Keep.refl _⟩
  case round =>
    obtain ⟨j, hj, rfl, hA, hK⟩ := hrel
    have HA := Lib.hid hA
    have HK := Lib.hid hK
    clear hA hK
    by_cases hlt : j < l.length
    · have hji : (j : Int) < (l.length : Int) := by omega
      obtain ⟨y, hy⟩ : ∃ y, l[j]? = some y := ⟨_, List.getElem?_eq_getElem hlt⟩
      obtain ⟨b, off, hp, hcl⟩ : ∃ b off, p = some ⟨b, off, none⟩ ∧ ∀ (k : Nat) (x : Int), l[k]? = some x → w.cell? ⟨b, off + k, none⟩ = some (.int .u32 x) := by
        rcases HP.out with e | ⟨b, off, e1, _, e2⟩
        · rw [e] at hy; simp at hy
        · exact ⟨b, off, e1, e2⟩
      have c0 := HK.out.cellOf (hcl j y hy)
      have HY := Lib.hid hy
      subst hp
      clear hcl hy
      by_cases e : x = y
      · have e1 : (x == y) = true := by simpa using e
        have HE := Lib.hid e
        clear e
        go_wp2_with fail
        go_ret
        refine ⟨(j : Int), rfl, ?_, HK.out⟩
        rw [decide_eq_true (Int.natCast_nonneg _)]
        symm
        rw [List.any_eq_true]
        exact ⟨y, List.mem_of_getElem? HY.out, decide_eq_true HE.out.symm⟩
      · have e1 : (x == y) = false := by simpa using e
        have HT : Hid (((l.take (j + 1)).any fun y => decide (y = x)) = false) := Lib.hid (by
          rw [List.take_add_one, HY.out, List.any_append, HA.out]
          simp only [Option.toList_some, List.any_cons, List.any_nil, Bool.false_or, Bool.or_false]
          exact decide_eq_false (fun q => e q.symm))
        clear e
        go_wp2_with fail
        go_roundw
        case rel => exact ⟨j + 1, hlt, by go_num, HT.out, HK.out⟩
        case measure => simp [intOf]; omega
    · obtain rfl : j = l.length := by omega
      have HF := HA.out
      rw [List.take_length] at HF
      have HF2 := Lib.hid HF
      clear HF
      go_wp2_with fail
      go_ret
      exact ⟨-1, rfl, by rw [HF2.out]; rfl, HK.out⟩
set_option maxHeartbeats 4000000 in
set_option maxRecDepth 100000 in
theorem icontU_any (l : List Int) (vl : Value) (x : Int) (w : World) (h : NumsAt w vl l) (few : l.length ≤ 1000000) :
    Calls Tryd.prog 66 #[vl, .int .u32 x] w fun e w' => e = .returned (.bool (amongI l x)) ∧ Keep w w' := by
  have C := Lib.hid (icontU_idx l vl x w h few)
  obtain ⟨p, cap, rfl, _⟩ := h.at
  obtain ⟨t, ht⟩ : ∃ t, amongI l x = t := ⟨_, rfl⟩
  rw [ht] at C ⊢
  clear h ht
  go_enter Tryd.func66, Tryd.ntmps66
  go_wp2_with fail
  refine C.out.mono ?_
  rintro e w2 ⟨n, rfl, hn, hk2⟩
  have HK := Lib.hid hk2
  clear hk2 C
  cases t with
  | true =>
    have h0 : 0 ≤ n := of_decide_eq_true hn
    go_wp2_with fail
    go_ret
    exact ⟨rfl, HK.out⟩
  | false =>
    have h0 : ¬ 0 ≤ n := of_decide_eq_false hn
    go_wp2_with fail
    go_ret
    exact ⟨rfl, HK.out⟩
/-- What is wrong with a part and a place of it that is called. -/
def callE (i : ImgV) (f a : Int) : Int := if f < 0 ∨ (i.parts.length : Int) ≤ f then 6 else if (match i.parts[f.toNat]? with
    | none => false
    | some p => amongI p.entries a) = false then 12 else 0
/-- What lies of a part, as cells. -/
theorem ImgAt.part8 {w : World} {i : ImgV} {pq : Option Addr} {pc : Nat} {vs vi vb : Value} {ves : List Value} (h : ImgAt w i (.slice pq i.parts.length pc) vs vi vb ves) {k : Nat} {p : PartV} (hp : i.parts[k]? = some p) : ∃ b off ve, pq = some ⟨b, off, none⟩ ∧ SlAt w ve p.entries.length (p.entries.map u32V) ∧ w.cell? ⟨b, off + k * 8, none⟩ = some (.string p.name) ∧ w.cell? ⟨b, off + k * 8 + 1, none⟩ = some (.int .u32 p.code.at_) ∧ w.cell? ⟨b, off + k * 8 + 2, none⟩ = some (.int .u32 p.code.size) ∧ w.cell? ⟨b, off + k * 8 + 3, none⟩ = some (.int .u32 p.data.at_) ∧ w.cell? ⟨b, off + k * 8 + 4, none⟩ = some (.int .u32 p.data.size) ∧
    w.cell? ⟨b, off + k * 8 + 5, none⟩ = some (.int .u32 p.stack.at_) ∧ w.cell? ⟨b, off + k * 8 + 6, none⟩ = some (.int .u32 p.stack.size) ∧ w.cell? ⟨b, off + k * 8 + 7, none⟩ = some ve := by
  have hk := (List.getElem?_eq_some_iff.1 hp).1
  obtain ⟨ve, hve⟩ : ∃ ve, ves[k]? = some ve := ⟨_, List.getElem?_eq_getElem (by rw [h.nves]; exact hk)⟩
  have he := h.ents k p ve hp hve
  obtain ⟨pq', pc', e0, _, _, hpp⟩ := h.partsAt
  have e1 := Value.slice.inj e0
  obtain ⟨rfl, _, rfl⟩ := e1
  rcases hpp with e | ⟨b, off, hq, _, hcl⟩
  · rw [e] at hp; simp at hp
  · exact ⟨b, off, ve, hq, he, hcl k p ve hp hve⟩
set_option maxHeartbeats 4000000 in
set_option maxRecDepth 100000 in
theorem icallable_any (i : ImgV) (vp vs vi vb : Value) (ves : List Value) (f a : Int) (w : World) (h : ImgAt w i vp vs vi vb ves) (hm : ImgMid i) :
    Calls Tryd.prog 40 #[imgVal i vp vs vi vb, .int .i64 f, .int .u32 a] w fun e w' => e = .returned (.int .i64 (callE i f a)) ∧ Keep w w' := by
  have HO := Lib.hid h
  have fp := hm.parts
  have CA := Lib.hid (fun W => ipamong_any f i.parts.length (by omega) W)
  obtain ⟨pq, pc, rfl, hpc, hpm, _⟩ := h.partsAt
  obtain ⟨sq, sc, rfl, _, _, _⟩ := h.sharesAt
  unfold imgVal
  obtain ⟨W0, hW0⟩ : ∃ W0, W0 = w.alloc (.cells #[.int .u32 i.size, .slice pq i.parts.length pc, .slice sq i.shares.length sc, vi, .int .i64 i.start, .int .u32 i.addr, vb] 28) := ⟨_, rfl⟩
  have K0 : Hid (Keep w W0) := Lib.hid (by rw [hW0]; exact (Keep.refl _).alloc _)
  have B0 : Hid (Box W0 w.heap.size #[.int .u32 i.size, .slice pq i.parts.length pc, .slice sq i.shares.length sc, vi, .int .i64 i.start, .int .u32 i.addr, vb]) := Lib.hid (by rw [hW0]; exact Box.new _ _ _)
  obtain ⟨r, hr⟩ : ∃ r, r = callE i f a := ⟨_, rfl⟩
  rw [← hr]
  unfold callE at hr
  have HR := Lib.hid hr
  clear h hr
  by_cases h1 : f < 0 ∨ (i.parts.length : Int) ≤ f
  · obtain rfl : r = 6 := HR.out.trans (if_pos h1)
    have d : (decide (0 ≤ f) && decide (f < (i.parts.length : Int))) = false := by
      rw [Bool.and_eq_false_iff, decide_eq_false_iff_not, decide_eq_false_iff_not]; omega
    rw [d] at CA
    clear h1 HR hm d
    go_enter Tryd.func40, Tryd.ntmps40
    go_wp2_with fail
    rw [← hW0]
    clear hW0
    with_reducible refine (CA.out _).mono ?_
    rintro e w1 ⟨rfl, hk1⟩
    have HK := Lib.hid (K0.out.trans hk1)
    clear hk1 CA
    go_wp2_with fail
    go_ret
    exact ⟨rfl, HK.out⟩
  · have d : (decide (0 ≤ f) && decide (f < (i.parts.length : Int))) = true := by
      rw [Bool.and_eq_true, decide_eq_true_eq, decide_eq_true_eq]; omega
    rw [d] at CA
    have HR2 := Lib.hid (HR.out.trans (if_neg h1))
    obtain ⟨k, rfl⟩ : ∃ k : Nat, f = (k : Int) := ⟨f.toNat, by omega⟩
    have hki : (k : Int) < (i.parts.length : Int) := by omega
    have k0 : (0 : Int) ≤ (k : Int) := Int.natCast_nonneg _
    obtain ⟨x, hx⟩ : ∃ x, i.parts[k]? = some x := ⟨_, List.getElem?_eq_getElem (by omega)⟩
    obtain ⟨b, off, ve, hq, he, _, _, _, _, _, _, _, c7⟩ := HO.out.part8 hx
    have C7 := Lib.hid c7
    have HE := Lib.hid he
    have fe := hm.ents x (List.mem_of_getElem? hx)
    have CC := Lib.hid (fun W (kw : Keep w W) => icontU_any x.entries ve a W (SlAt.keep HE.out kw) (by omega))
    obtain ⟨am, ham⟩ : ∃ am, amongI x.entries a = am := ⟨_, rfl⟩
    have HR3 : Hid (r = if am = false then 12 else 0) := Lib.hid (by
      have e := HR2.out
      rw [show ((k : Int).toNat) = k from Int.toNat_natCast k, hx] at e
      dsimp only at e
      subst ham
      exact e)
    rw [ham] at CC
    obtain ⟨ep, ec, rfl, _⟩ := he
    subst hq
    clear h1 HR HR2 hx c7 hm d ham
    go_enter Tryd.func40, Tryd.ntmps40
    go_wp2_with fail
    rw [← hW0]
    clear hW0
    with_reducible refine (CA.out _).mono ?_
    rintro e w1 ⟨rfl, hk1⟩
    have HK := Lib.hid (K0.out.trans hk1)
    have cB := (B0.out.keep hk1).cells
    have c7 := HK.out.cellOf C7.out
    clear hk1 CA
    go_wp2_with fail
    with_reducible refine (CC.out _ HK.out).mono ?_
    rintro e w2 ⟨rfl, hk2⟩
    have HK2 := Lib.hid (HK.out.trans hk2)
    clear hk2 CC cB c7
    cases am with
    | false =>
      obtain rfl : r = 12 := HR3.out.trans (if_pos rfl)
      go_wp2_with fail
      go_ret
      exact ⟨rfl, HK2.out⟩
    | true =>
      obtain rfl : r = 0 := HR3.out.trans (if_neg (by decide))
      go_wp2_with fail
      go_ret
      exact ⟨rfl, HK2.out⟩
end Go.Proofs.YtmcbeclkocjlkaaDoor
