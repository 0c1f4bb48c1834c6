/- ImgPCa, ImgPEq, ImgPSp2, ImgPSame: The program's callable; a number among others; permissions. -/
import Derived.Test.YtbmjnfnekmeegaaGreatDoorGIpD
import Derived.Test.YtbmjnfnekmeegaaGreatDoorGPlainI
import Derived.Laws.BitsAllLaws
import Derived.Shelf.Abstract
import Derived.Test.YtbmjnfnekmeegaaGreatDoorGRdrC
import Derived.Test.YtbmjnfnekmeegaaGreatDoorImgAt
import Derived.Laws.StructEq
import Derived.Test.YtbmjnfnekmeegaaGreatDoorGObjF
import Derived.Test.YtbmjnfnekmeegaaGreatDoorImgSameC
/- The program's callable; a number among others; permissions. -/
namespace Go.Proofs.YtbmjnfnekmeegaaGreatDoor
set_option linter.unusedVariables false
set_option linter.unusedSimpArgs false
open Go Go.RowKit
theorem and_four (a : Nat) (h : a < 65536) : (a &&& 65532) = 0 ↔ a < 4 := by
  have h1 : (a &&& 65532) / 4 = a / 4 := by
    have e := Nat.and_div_two_pow (a := a) (b := 65532) (n := 2)
    rw [show (2 : Nat) ^ 2 = 4 from rfl, show (65532 : Nat) / 4 = 2 ^ 14 - 1 from rfl, Nat.and_two_pow_sub_one_eq_mod] at e
    rw [e]
    omega
  have h2 : (a &&& 65532) % 4 = 0 := by
    have e := Nat.and_mod_two_pow (a := a) (b := 65532) (n := 2)
    rw [show (2 : Nat) ^ 2 = 4 from rfl, show (65532 : Nat) % 4 = 0 from rfl, Nat.and_zero] at e
    exact e
  omega
theorem perm_three (p : Int) (h : 0 ≤ p ∧ p < 65536) : (bits .andNot .u16 p 3 != 0) = decide (3 < p) := by
  rw [u16_andNot p 3 h.1 h.2 (by decide) (by decide)]
  have e := and_four p.toNat (by omega)
  rw [show (65535 - (3 : Int).toNat : Nat) = 65532 from rfl, Bool.eq_iff_iff, bne_iff_ne, decide_eq_true_eq]
  constructor
  · intro hz
    have : ¬ p.toNat < 4 := fun hl => hz (by rw [e.2 hl]; rfl)
    omega
  · intro hl hz
    have : p.toNat &&& 65532 = 0 := by omega
    have := e.1 this
    omega
set_option maxHeartbeats 4000000 in
set_option maxRecDepth 100000 in
theorem icontU_idx (l : List Int) (vl : Value) (x : Int) (w : World) (h : NumsAt w vl l) (few : l.length ≤ 1000000) :
    Calls Tryz.prog 179 #[vl, .int .u32 x] w fun e w' => ∃ n : Int, e = .returned (.int .i64 n) ∧ decide (0 ≤ n) = amongI l x ∧ Keep w w' := by
  obtain ⟨p, cap, rfl, hcap, _, hp⟩ := h.at
  have HP := Lib.hid hp
  clear h hp
  unfold amongI
  go_enter Tryz.func179, Tryz.ntmps179
  go_wp2_with fail
  go_loopw [5, 8] (fun _ ii wr => ∃ j : Nat, j ≤ l.length ∧ ii = .int .i64 (j : Int) ∧ ((l.take j).any fun y => decide (y = x)) = false ∧ Keep w wr) (fun _ ii _ => l.length - (intOf ii).toNat)
  case atStart => exact ⟨0, Nat.zero_le _, rfl, by simp, Keep.refl _⟩
  case round =>
    obtain ⟨j, hj, rfl, hA, hK⟩ := hrel
    have HA := Lib.hid hA
    have HK := Lib.hid hK
    clear hA hK
    by_cases hlt : j < l.length
    · have hji : (j : Int) < (l.length : Int) := by omega
      obtain ⟨y, hy⟩ : ∃ y, l[j]? = some y := ⟨_, List.getElem?_eq_getElem hlt⟩
      obtain ⟨b, off, hp, hcl⟩ : ∃ b off, p = some ⟨b, off, none⟩ ∧ ∀ (k : Nat) (x : Int), l[k]? = some x → w.cell? ⟨b, off + k, none⟩ = some (.int .u32 x) := by
        rcases HP.out with e | ⟨b, off, e1, _, e2⟩
        · rw [e] at hy; simp at hy
        · exact ⟨b, off, e1, e2⟩
      have c0 := HK.out.cellOf (hcl j y hy)
      have HY := Lib.hid hy
      subst hp
      clear hcl hy
      by_cases e : x = y
      · have e1 : (x == y) = true := by simpa using e
        have HE := Lib.hid e
        clear e
        go_wp2_with fail
        go_ret
        refine ⟨(j : Int), rfl, ?_, HK.out⟩
        rw [decide_eq_true (Int.natCast_nonneg _)]
        symm
        rw [List.any_eq_true]
        exact ⟨y, List.mem_of_getElem? HY.out, decide_eq_true HE.out.symm⟩
      · have e1 : (x == y) = false := by simpa using e
        have HT : Hid (((l.take (j + 1)).any fun y => decide (y = x)) = false) := Lib.hid (by
          rw [List.take_add_one, HY.out, List.any_append, HA.out]
          simp only [Option.toList_some, List.any_cons, List.any_nil, Bool.false_or, Bool.or_false]
          exact decide_eq_false (fun q => e q.symm))
        clear e
        go_wp2_with fail
        go_roundw
        case rel => exact ⟨j + 1, hlt, by go_num, HT.out, HK.out⟩
        case measure => simp [intOf]; omega
    · obtain rfl : j = l.length := by omega
      have HF := HA.out
      rw [List.take_length] at HF
      have HF2 := Lib.hid HF
      clear HF
      go_wp2_with fail
      go_ret
      exact ⟨-1, rfl, by rw [HF2.out]; rfl, HK.out⟩
set_option maxHeartbeats 4000000 in
set_option maxRecDepth 100000 in
theorem icontU_any (l : List Int) (vl : Value) (x : Int) (w : World) (h : NumsAt w vl l) (few : l.length ≤ 1000000) :
    Calls Tryz.prog 143 #[vl, .int .u32 x] w fun e w' => e = .returned (.bool (amongI l x)) ∧ Keep w w' := by
  have C := Lib.hid (icontU_idx l vl x w h few)
  obtain ⟨p, cap, rfl, _⟩ := h.at
  obtain ⟨t, ht⟩ : ∃ t, amongI l x = t := ⟨_, rfl⟩
  rw [ht] at C ⊢
  clear h ht
  go_enter Tryz.func143, Tryz.ntmps143
  go_wp2_with fail
  refine C.out.mono ?_
  rintro e w2 ⟨n, rfl, hn, hk2⟩
  have HK := Lib.hid hk2
  clear hk2 C
  cases t with
  | true =>
    have h0 : 0 ≤ n := of_decide_eq_true hn
    go_wp2_with fail
    go_ret
    exact ⟨rfl, HK.out⟩
  | false =>
    have h0 : ¬ 0 ≤ n := of_decide_eq_false hn
    go_wp2_with fail
    go_ret
    exact ⟨rfl, HK.out⟩
/-- What is wrong with a part and a place of it that is called. -/
def callE (i : ImgV) (f a : Int) : Int := if f < 0 ∨ (i.parts.length : Int) ≤ f then 6 else if (match i.parts[f.toNat]? with
    | none => false
    | some p => amongI p.entries a) = false then 12 else 0
/-- What lies of a part, as cells. -/
theorem ImgAt.part8 {w : World} {i : ImgV} {pq : Option Addr} {pc : Nat} {vs vi vb : Value} {ves : List Value} (h : ImgAt w i (.slice pq i.parts.length pc) vs vi vb ves) {k : Nat} {p : PartV} (hp : i.parts[k]? = some p) : ∃ b off ve, pq = some ⟨b, off, none⟩ ∧ SlAt w ve p.entries.length (p.entries.map u32V) ∧ w.cell? ⟨b, off + k * 8, none⟩ = some (.string p.name) ∧ w.cell? ⟨b, off + k * 8 + 1, none⟩ = some (.int .u32 p.code.at_) ∧ w.cell? ⟨b, off + k * 8 + 2, none⟩ = some (.int .u32 p.code.size) ∧ w.cell? ⟨b, off + k * 8 + 3, none⟩ = some (.int .u32 p.data.at_) ∧ w.cell? ⟨b, off + k * 8 + 4, none⟩ = some (.int .u32 p.data.size) ∧
    w.cell? ⟨b, off + k * 8 + 5, none⟩ = some (.int .u32 p.stack.at_) ∧ w.cell? ⟨b, off + k * 8 + 6, none⟩ = some (.int .u32 p.stack.size) ∧ w.cell? ⟨b, off + k * 8 + 7, none⟩ = some ve := by
  have hk := (List.getElem?_eq_some_iff.1 hp).1
  obtain ⟨ve, hve⟩ : ∃ ve, ves[k]? = some ve := ⟨_, List.getElem?_eq_getElem (by rw [h.nves]; exact hk)⟩
  have he := h.ents k p ve hp hve
  obtain ⟨pq', pc', e0, _, _, hpp⟩ := h.partsAt
  have e1 := Value.slice.inj e0
  obtain ⟨rfl, _, rfl⟩ := e1
  rcases hpp with e | ⟨b, off, hq, _, hcl⟩
  · rw [e] at hp; simp at hp
  · exact ⟨b, off, ve, hq, he, hcl k p ve hp hve⟩
set_option maxHeartbeats 4000000 in
set_option maxRecDepth 100000 in
theorem icallable_any (i : ImgV) (vp vs vi vb : Value) (ves : List Value) (f a : Int) (w : World) (h : ImgAt w i vp vs vi vb ves) (hm : ImgMid i) :
    Calls Tryz.prog 102 #[imgVal i vp vs vi vb, .int .i64 f, .int .u32 a] w fun e w' => e = .returned (.int .i64 (callE i f a)) ∧ Keep w w' := by
  have HO := Lib.hid h
  have fp := hm.parts
  have CA := Lib.hid (fun W => ipamong_any f i.parts.length (by omega) W)
  obtain ⟨pq, pc, rfl, hpc, hpm, _⟩ := h.partsAt
  obtain ⟨sq, sc, rfl, _, _, _⟩ := h.sharesAt
  unfold imgVal
  obtain ⟨W0, hW0⟩ : ∃ W0, W0 = w.alloc (.cells #[.int .u32 i.size, .slice pq i.parts.length pc, .slice sq i.shares.length sc, vi, .int .i64 i.start, .int .u32 i.addr, vb] 40) := ⟨_, rfl⟩
  have K0 : Hid (Keep w W0) := Lib.hid (by rw [hW0]; exact (Keep.refl _).alloc _)
  have B0 : Hid (Box W0 w.heap.size #[.int .u32 i.size, .slice pq i.parts.length pc, .slice sq i.shares.length sc, vi, .int .i64 i.start, .int .u32 i.addr, vb]) := Lib.hid (by rw [hW0]; exact Box.new _ _ _)
  obtain ⟨r, hr⟩ : ∃ r, r = callE i f a := ⟨_, rfl⟩
  rw [← hr]
  unfold callE at hr
  have HR := Lib.hid hr
  clear h hr
  by_cases h1 : f < 0 ∨ (i.parts.length : Int) ≤ f
  · obtain rfl : r = 6 := HR.out.trans (if_pos h1)
    have d : (decide (0 ≤ f) && decide (f < (i.parts.length : Int))) = false := by
      rw [Bool.and_eq_false_iff, decide_eq_false_iff_not, decide_eq_false_iff_not]; omega
    rw [d] at CA
    clear h1 HR hm d
    go_enter Tryz.func102, Tryz.ntmps102
    go_wp2_with fail
    rw [← hW0]
    clear hW0
    with_reducible refine (CA.out _).mono ?_
    rintro e w1 ⟨rfl, hk1⟩
    have HK := Lib.hid (K0.out.trans hk1)
    clear hk1 CA
    go_wp2_with fail
    go_ret
    exact ⟨rfl, HK.out⟩
  · have d : (decide (0 ≤ f) && decide (f < (i.parts.length : Int))) = true := by
      rw [Bool.and_eq_true, decide_eq_true_eq, decide_eq_true_eq]; omega
    rw [d] at CA
    have HR2 := Lib.hid (HR.out.trans (if_neg h1))
    obtain ⟨k, rfl⟩ : ∃ k : Nat, f = (k : Int) := ⟨f.toNat, by omega⟩
    have hki : (k : Int) < (i.parts.length : Int) := by omega
    have k0 : (0 : Int) ≤ (k : Int) := Int.natCast_nonneg _
    obtain ⟨x, hx⟩ : ∃ x, i.parts[k]? = some x := ⟨_, List.getElem?_eq_getElem (by omega)⟩
    obtain ⟨b, off, ve, hq, he, _, _, _, _, _, _, _, c7⟩ := HO.out.part8 hx
    have C7 := Lib.hid c7
    have HE := Lib.hid he
    have fe := hm.ents x (List.mem_of_getElem? hx)
    have CC := Lib.hid (fun W (kw : Keep w W) => icontU_any x.entries ve a W (SlAt.keep HE.out kw) (by omega))
    obtain ⟨am, ham⟩ : ∃ am, amongI x.entries a = am := ⟨_, rfl⟩
    have HR3 : Hid (r = if am = false then 12 else 0) := Lib.hid (by
      have e := HR2.out
      rw [show ((k : Int).toNat) = k from Int.toNat_natCast k, hx] at e
      dsimp only at e
      subst ham
      exact e)
    rw [ham] at CC
    obtain ⟨ep, ec, rfl, _⟩ := he
    subst hq
    clear h1 HR HR2 hx c7 hm d ham
    go_enter Tryz.func102, Tryz.ntmps102
    go_wp2_with fail
    rw [← hW0]
    clear hW0
    with_reducible refine (CA.out _).mono ?_
    rintro e w1 ⟨rfl, hk1⟩
    have HK := Lib.hid (K0.out.trans hk1)
    have cB := (B0.out.keep hk1).cells
    have c7 := HK.out.cellOf C7.out
    clear hk1 CA
    go_wp2_with fail
    with_reducible refine (CC.out _ HK.out).mono ?_
    rintro e w2 ⟨rfl, hk2⟩
    have HK2 := Lib.hid (HK.out.trans hk2)
    clear hk2 CC cB c7
    cases am with
    | false =>
      obtain rfl : r = 12 := HR3.out.trans (if_pos rfl)
      go_wp2_with fail
      go_ret
      exact ⟨rfl, HK2.out⟩
    | true =>
      obtain rfl : r = 0 := HR3.out.trans (if_neg (by decide))
      go_wp2_with fail
      go_ret
      exact ⟨rfl, HK2.out⟩
end Go.Proofs.YtbmjnfnekmeegaaGreatDoor

/- slices.Equal at spans, inits, bytes, numbers. -/
namespace Go.Proofs.YtbmjnfnekmeegaaGreatDoor
set_option linter.unusedVariables false
set_option linter.unusedSimpArgs false
open Go Go.RowKit
def sameSp (s t : SpanV) : Bool := (s.at_ == t.at_) && (s.size == t.size)
theorem sameSp_iff (s t : SpanV) : sameSp s t = true ↔ s = t := by
  obtain ⟨a, b⟩ := s
  obtain ⟨a1, b1⟩ := t
  unfold sameSp
  simp
def sameIn (s t : InitV) : Bool := (s.comp == t.comp) && ((s.at_ == t.at_) && ((s.kind == t.kind) && ((s.data == t.data) && ((s.src == t.src) && ((s.addr == t.addr) && (s.perm == t.perm))))))
theorem sameIn_iff (s t : InitV) : sameIn s t = true ↔ s = t := by
  obtain ⟨a, b, c, d, e, f, g⟩ := s
  obtain ⟨a1, b1, c1, d1, e1, f1, g1⟩ := t
  unfold sameIn
  simp
theorem eqin_span (s t : SpanV) (w : World) : (Op.equalIn 10000 80 (.agg #[.int .u32 s.at_, .int .u32 s.size]) (.agg #[.int .u32 t.at_, .int .u32 t.size])).run Tryz.prog w = .ok (sameSp s t) w := by
  unfold sameSp
  cases h0 : (s.at_ == t.at_)
  · go_simp
  cases h1 : (s.size == t.size)
  · go_simp
  go_simp
theorem eqin_init (s t : InitV) (w : World) : (Op.equalIn 10000 130 (.agg #[.int .i64 s.comp, .int .u32 s.at_, .int .i64 s.kind, .bool s.data, .int .i64 s.src, .int .u32 s.addr, .int .u16 s.perm]) (.agg #[.int .i64 t.comp, .int .u32 t.at_, .int .i64 t.kind, .bool t.data, .int .i64 t.src, .int .u32 t.addr, .int .u16 t.perm])).run Tryz.prog w = .ok (sameIn s t) w := by
  unfold sameIn
  cases h0 : (s.comp == t.comp)
  · go_simp
  cases h1 : (s.at_ == t.at_)
  · go_simp
  cases h2 : (s.kind == t.kind)
  · go_simp
  cases h3 : (s.data == t.data)
  · go_simp
  cases h4 : (s.src == t.src)
  · go_simp
  cases h5 : (s.addr == t.addr)
  · go_simp
  cases h6 : (s.perm == t.perm)
  · go_simp
  go_simp
def uRow (x : Int) : List Value := [u32V x]
theorem map_urow (l : List Int) : l.map u32V = l.flatMap uRow := by
  induction l with
  | nil => rfl
  | cons x l ih => rw [List.map_cons, List.flatMap_cons, ih]; rfl
theorem int_iff (x y : Int) : (x == y) = true ↔ x = y := beq_iff_eq
set_option maxHeartbeats 4000000 in
set_option maxRecDepth 100000 in
theorem ipeq_S (l1 l2 : List SpanV) (v1 v2 : Value) (w : World) (h1 : SlAt w v1 l1.length (l1.flatMap spanRow)) (h2 : SlAt w v2 l2.length (l2.flatMap spanRow)) (f1 : l1.length ≤ 1000000) (f2 : l2.length ≤ 1000000) :
    Calls Tryz.prog 52 #[v1, v2] w (EqR l1 l2 w) := by
  obtain ⟨p1, c1, rfl, hc1, x1⟩ := SlAt.rowsEq (f := spanRow) (m := 2) (fun _ => rfl) (by decide) h1
  obtain ⟨p2, c2, rfl, hc2, x2⟩ := SlAt.rowsEq (f := spanRow) (m := 2) (fun _ => rfl) (by decide) h2
  clear h1 h2 hc1 hc2
  have X1 := Lib.hid x1
  have X2 := Lib.hid x2
  clear x1 x2
  obtain ⟨n, hn⟩ : ∃ n, n = l1.length := ⟨_, rfl⟩
  rw [← hn] at f1 ⊢
  have HN := Lib.hid hn
  by_cases hnm : n = l2.length
  · rw [← hnm]
    have HM := Lib.hid hnm
    clear f2 hn hnm
    go_enter Tryz.func52, Tryz.ntmps52
    go_wp2_with fail
    go_loopw [5, 13] (fun _ i wr => ∃ k : Nat, k ≤ n ∧ i = .int .i64 (k : Int) ∧ Keep w wr ∧ ∀ (j : Nat) (x y : SpanV), j < k → l1[j]? = some x → l2[j]? = some y → x = y) (fun _ i _ => n - (intOf i).toNat)
    case atStart => exact ⟨0, Nat.zero_le _, rfl, Keep.refl _, fun j _ _ hj => absurd hj (Nat.not_lt_zero _)⟩
    case round =>
      obtain ⟨k, hk, rfl, hK, heq⟩ := hrel
      have HQ := Lib.hid heq
      have HK := Lib.hid hK
      clear heq hK
      have k0 : (0 : Int) ≤ (k : Int) := Int.natCast_nonneg _
      by_cases hlt : k < n
      · have hkn : (k : Int) < (n : Int) := by omega
        obtain ⟨x, hx⟩ : ∃ x, l1[k]? = some x := ⟨_, List.getElem?_eq_getElem (by rw [← HN.out]; exact hlt)⟩
        obtain ⟨y, hy⟩ : ∃ y, l2[k]? = some y := ⟨_, List.getElem?_eq_getElem (by rw [← HM.out]; exact hlt)⟩
        rcases X1.out with hnil | ⟨b1, o1, rfl, hb1, y1⟩
        · rw [hnil] at hx; simp at hx
        rcases X2.out with hnil | ⟨b2, o2, rfl, hb2, y2⟩
        · rw [hnil] at hy; simp at hy
        have qx0 : Hid (wr.cell? ⟨b1, o1 + k * 2, none⟩ = some (.int .u32 x.at_)) := Lib.hid (by have := y1 k x hx 0 (by decide); rw [Nat.add_zero] at this; exact HK.out.cellOf this)
        have qx1 : Hid (wr.cell? ⟨b1, o1 + k * 2 + 1, none⟩ = some (.int .u32 x.size)) := Lib.hid (by have := y1 k x hx 1 (by decide); rw [← Nat.add_assoc] at this; exact HK.out.cellOf this)
        have qy0 : Hid (wr.cell? ⟨b2, o2 + k * 2, none⟩ = some (.int .u32 y.at_)) := Lib.hid (by have := y2 k y hy 0 (by decide); rw [Nat.add_zero] at this; exact HK.out.cellOf this)
        have qy1 : Hid (wr.cell? ⟨b2, o2 + k * 2 + 1, none⟩ = some (.int .u32 y.size)) := Lib.hid (by have := y2 k y hy 1 (by decide); rw [← Nat.add_assoc] at this; exact HK.out.cellOf this)
        have HX := Lib.hid hx
        have HY := Lib.hid hy
        have EQ := fun W => eqin_span x y W
        clear hx hy y1 y2
        rcases Bool.eq_false_or_eq_true (sameSp x y) with d | d
        · have hxy := Lib.hid ((sameSp_iff x y).1 d)
          rw [d] at EQ
          go_wp2_with fail
          refine region_grows (Keep wr) (by kernel_rfl) (by kernel_rfl) (Keep.refl _).drew ?_
          repeat (first
            | (apply text_pass (by rfl); go_simp)
            | (apply text_step (by rfl)
               · intro W hW
                 have rqx0 := hW.cellOf qx0.out
                 have rqx1 := hW.cellOf qx1.out
                 have rqy0 := hW.cellOf qy0.out
                 have rqy1 := hW.cellOf qy1.out
                 go_simp
                 exact ⟨rfl, hW⟩
               go_simp))
          apply text_end
          intro W hW
          have HW := Lib.hid (HK.out.trans hW)
          clear hW
          go_wp2_with fail
          refine ⟨⟨k + 1, hlt, by simp, HW.out, fun j a b hj ha hb => ?_⟩, by simp [intOf]; omega⟩
          by_cases e : j = k
          · subst e
            rw [HX.out] at ha
            rw [HY.out] at hb
            cases ha
            cases hb
            exact hxy.out
          · exact HQ.out j a b (by omega) ha hb
        · have hne : Hid (l1 ≠ l2) := Lib.hid (fun h => by
            have h1 := HX.out
            rw [h, HY.out] at h1
            cases h1
            rw [(sameSp_iff _ _).2 rfl] at d
            cases d)
          rw [d] at EQ
          go_wp2_with fail
          refine region_grows (Keep wr) (by kernel_rfl) (by kernel_rfl) (Keep.refl _).drew ?_
          repeat (first
            | (apply text_pass (by rfl); go_simp)
            | (apply text_step (by rfl)
               · intro W hW
                 have rqx0 := hW.cellOf qx0.out
                 have rqx1 := hW.cellOf qx1.out
                 have rqy0 := hW.cellOf qy0.out
                 have rqy1 := hW.cellOf qy1.out
                 go_simp
                 exact ⟨rfl, hW⟩
               go_simp))
          apply text_end
          intro W hW
          have HW := Lib.hid (HK.out.trans hW)
          clear hW
          go_wp2_with fail
          go_ret
          exact EqR.no hne.out HW.out
      · obtain rfl : k = n := by omega
        have he : Hid (l1 = l2) := Lib.hid (list_eq_of (by rw [← HN.out, ← HM.out]) (fun j x y h1 h2 => HQ.out j x y (by rw [HN.out]; exact (List.getElem?_eq_some_iff.1 h1).1) h1 h2))
        go_wp2_with fail
        go_ret
        exact EqR.yes he.out HK.out
  · have hnm' : ¬ (n : Int) = (l2.length : Int) := by omega
    have hne : Hid (l1 ≠ l2) := Lib.hid (fun h => hnm (by rw [HN.out, h]))
    obtain ⟨l, hl⟩ : ∃ l, l = l2.length := ⟨_, rfl⟩
    rw [← hl] at hnm' f2 ⊢
    clear hn hnm hl HN X1 X2
    go_enter Tryz.func52, Tryz.ntmps52
    go_wp2_with fail
    go_ret
    exact EqR.no hne.out (Keep.refl _)
set_option maxHeartbeats 4000000 in
set_option maxRecDepth 100000 in
theorem ipeq_I (l1 l2 : List InitV) (v1 v2 : Value) (w : World) (h1 : SlAt w v1 l1.length (l1.flatMap initRow)) (h2 : SlAt w v2 l2.length (l2.flatMap initRow)) (f1 : l1.length ≤ 1000000) (f2 : l2.length ≤ 1000000) :
    Calls Tryz.prog 53 #[v1, v2] w (EqR l1 l2 w) := by
  obtain ⟨p1, c1, rfl, hc1, x1⟩ := SlAt.rowsEq (f := initRow) (m := 7) (fun _ => rfl) (by decide) h1
  obtain ⟨p2, c2, rfl, hc2, x2⟩ := SlAt.rowsEq (f := initRow) (m := 7) (fun _ => rfl) (by decide) h2
  clear h1 h2 hc1 hc2
  have X1 := Lib.hid x1
  have X2 := Lib.hid x2
  clear x1 x2
  obtain ⟨n, hn⟩ : ∃ n, n = l1.length := ⟨_, rfl⟩
  rw [← hn] at f1 ⊢
  have HN := Lib.hid hn
  by_cases hnm : n = l2.length
  · rw [← hnm]
    have HM := Lib.hid hnm
    clear f2 hn hnm
    go_enter Tryz.func53, Tryz.ntmps53
    go_wp2_with fail
    go_loopw [5, 13] (fun _ i wr => ∃ k : Nat, k ≤ n ∧ i = .int .i64 (k : Int) ∧ Keep w wr ∧ ∀ (j : Nat) (x y : InitV), j < k → l1[j]? = some x → l2[j]? = some y → x = y) (fun _ i _ => n - (intOf i).toNat)
    case atStart => exact ⟨0, Nat.zero_le _, rfl, Keep.refl _, fun j _ _ hj => absurd hj (Nat.not_lt_zero _)⟩
    case round =>
      obtain ⟨k, hk, rfl, hK, heq⟩ := hrel
      have HQ := Lib.hid heq
      have HK := Lib.hid hK
      clear heq hK
      have k0 : (0 : Int) ≤ (k : Int) := Int.natCast_nonneg _
      by_cases hlt : k < n
      · have hkn : (k : Int) < (n : Int) := by omega
        obtain ⟨x, hx⟩ : ∃ x, l1[k]? = some x := ⟨_, List.getElem?_eq_getElem (by rw [← HN.out]; exact hlt)⟩
        obtain ⟨y, hy⟩ : ∃ y, l2[k]? = some y := ⟨_, List.getElem?_eq_getElem (by rw [← HM.out]; exact hlt)⟩
        rcases X1.out with hnil | ⟨b1, o1, rfl, hb1, y1⟩
        · rw [hnil] at hx; simp at hx
        rcases X2.out with hnil | ⟨b2, o2, rfl, hb2, y2⟩
        · rw [hnil] at hy; simp at hy
        have qx0 : Hid (wr.cell? ⟨b1, o1 + k * 7, none⟩ = some (.int .i64 x.comp)) := Lib.hid (by have := y1 k x hx 0 (by decide); rw [Nat.add_zero] at this; exact HK.out.cellOf this)
        have qx1 : Hid (wr.cell? ⟨b1, o1 + k * 7 + 1, none⟩ = some (.int .u32 x.at_)) := Lib.hid (by have := y1 k x hx 1 (by decide); rw [← Nat.add_assoc] at this; exact HK.out.cellOf this)
        have qx2 : Hid (wr.cell? ⟨b1, o1 + k * 7 + 2, none⟩ = some (.int .i64 x.kind)) := Lib.hid (by have := y1 k x hx 2 (by decide); rw [← Nat.add_assoc] at this; exact HK.out.cellOf this)
        have qx3 : Hid (wr.cell? ⟨b1, o1 + k * 7 + 3, none⟩ = some (.bool x.data)) := Lib.hid (by have := y1 k x hx 3 (by decide); rw [← Nat.add_assoc] at this; exact HK.out.cellOf this)
        have qx4 : Hid (wr.cell? ⟨b1, o1 + k * 7 + 4, none⟩ = some (.int .i64 x.src)) := Lib.hid (by have := y1 k x hx 4 (by decide); rw [← Nat.add_assoc] at this; exact HK.out.cellOf this)
        have qx5 : Hid (wr.cell? ⟨b1, o1 + k * 7 + 5, none⟩ = some (.int .u32 x.addr)) := Lib.hid (by have := y1 k x hx 5 (by decide); rw [← Nat.add_assoc] at this; exact HK.out.cellOf this)
        have qx6 : Hid (wr.cell? ⟨b1, o1 + k * 7 + 6, none⟩ = some (.int .u16 x.perm)) := Lib.hid (by have := y1 k x hx 6 (by decide); rw [← Nat.add_assoc] at this; exact HK.out.cellOf this)
        have qy0 : Hid (wr.cell? ⟨b2, o2 + k * 7, none⟩ = some (.int .i64 y.comp)) := Lib.hid (by have := y2 k y hy 0 (by decide); rw [Nat.add_zero] at this; exact HK.out.cellOf this)
        have qy1 : Hid (wr.cell? ⟨b2, o2 + k * 7 + 1, none⟩ = some (.int .u32 y.at_)) := Lib.hid (by have := y2 k y hy 1 (by decide); rw [← Nat.add_assoc] at this; exact HK.out.cellOf this)
        have qy2 : Hid (wr.cell? ⟨b2, o2 + k * 7 + 2, none⟩ = some (.int .i64 y.kind)) := Lib.hid (by have := y2 k y hy 2 (by decide); rw [← Nat.add_assoc] at this; exact HK.out.cellOf this)
        have qy3 : Hid (wr.cell? ⟨b2, o2 + k * 7 + 3, none⟩ = some (.bool y.data)) := Lib.hid (by have := y2 k y hy 3 (by decide); rw [← Nat.add_assoc] at this; exact HK.out.cellOf this)
        have qy4 : Hid (wr.cell? ⟨b2, o2 + k * 7 + 4, none⟩ = some (.int .i64 y.src)) := Lib.hid (by have := y2 k y hy 4 (by decide); rw [← Nat.add_assoc] at this; exact HK.out.cellOf this)
        have qy5 : Hid (wr.cell? ⟨b2, o2 + k * 7 + 5, none⟩ = some (.int .u32 y.addr)) := Lib.hid (by have := y2 k y hy 5 (by decide); rw [← Nat.add_assoc] at this; exact HK.out.cellOf this)
        have qy6 : Hid (wr.cell? ⟨b2, o2 + k * 7 + 6, none⟩ = some (.int .u16 y.perm)) := Lib.hid (by have := y2 k y hy 6 (by decide); rw [← Nat.add_assoc] at this; exact HK.out.cellOf this)
        have HX := Lib.hid hx
        have HY := Lib.hid hy
        have EQ := fun W => eqin_init x y W
        clear hx hy y1 y2
        rcases Bool.eq_false_or_eq_true (sameIn x y) with d | d
        · have hxy := Lib.hid ((sameIn_iff x y).1 d)
          rw [d] at EQ
          go_wp2_with fail
          refine region_grows (Keep wr) (by kernel_rfl) (by kernel_rfl) (Keep.refl _).drew ?_
          repeat (first
            | (apply text_pass (by rfl); go_simp)
            | (apply text_step (by rfl)
               · intro W hW
                 have rqx0 := hW.cellOf qx0.out
                 have rqx1 := hW.cellOf qx1.out
                 have rqx2 := hW.cellOf qx2.out
                 have rqx3 := hW.cellOf qx3.out
                 have rqx4 := hW.cellOf qx4.out
                 have rqx5 := hW.cellOf qx5.out
                 have rqx6 := hW.cellOf qx6.out
                 have rqy0 := hW.cellOf qy0.out
                 have rqy1 := hW.cellOf qy1.out
                 have rqy2 := hW.cellOf qy2.out
                 have rqy3 := hW.cellOf qy3.out
                 have rqy4 := hW.cellOf qy4.out
                 have rqy5 := hW.cellOf qy5.out
                 have rqy6 := hW.cellOf qy6.out
                 go_simp
                 exact ⟨rfl, hW⟩
               go_simp))
          apply text_end
          intro W hW
          have HW := Lib.hid (HK.out.trans hW)
          clear hW
          go_wp2_with fail
          refine ⟨⟨k + 1, hlt, by simp, HW.out, fun j a b hj ha hb => ?_⟩, by simp [intOf]; omega⟩
          by_cases e : j = k
          · subst e
            rw [HX.out] at ha
            rw [HY.out] at hb
            cases ha
            cases hb
            exact hxy.out
          · exact HQ.out j a b (by omega) ha hb
        · have hne : Hid (l1 ≠ l2) := Lib.hid (fun h => by
            have h1 := HX.out
            rw [h, HY.out] at h1
            cases h1
            rw [(sameIn_iff _ _).2 rfl] at d
            cases d)
          rw [d] at EQ
          go_wp2_with fail
          refine region_grows (Keep wr) (by kernel_rfl) (by kernel_rfl) (Keep.refl _).drew ?_
          repeat (first
            | (apply text_pass (by rfl); go_simp)
            | (apply text_step (by rfl)
               · intro W hW
                 have rqx0 := hW.cellOf qx0.out
                 have rqx1 := hW.cellOf qx1.out
                 have rqx2 := hW.cellOf qx2.out
                 have rqx3 := hW.cellOf qx3.out
                 have rqx4 := hW.cellOf qx4.out
                 have rqx5 := hW.cellOf qx5.out
                 have rqx6 := hW.cellOf qx6.out
                 have rqy0 := hW.cellOf qy0.out
                 have rqy1 := hW.cellOf qy1.out
                 have rqy2 := hW.cellOf qy2.out
                 have rqy3 := hW.cellOf qy3.out
                 have rqy4 := hW.cellOf qy4.out
                 have rqy5 := hW.cellOf qy5.out
                 have rqy6 := hW.cellOf qy6.out
                 go_simp
                 exact ⟨rfl, hW⟩
               go_simp))
          apply text_end
          intro W hW
          have HW := Lib.hid (HK.out.trans hW)
          clear hW
          go_wp2_with fail
          go_ret
          exact EqR.no hne.out HW.out
      · obtain rfl : k = n := by omega
        have he : Hid (l1 = l2) := Lib.hid (list_eq_of (by rw [← HN.out, ← HM.out]) (fun j x y h1 h2 => HQ.out j x y (by rw [HN.out]; exact (List.getElem?_eq_some_iff.1 h1).1) h1 h2))
        go_wp2_with fail
        go_ret
        exact EqR.yes he.out HK.out
  · have hnm' : ¬ (n : Int) = (l2.length : Int) := by omega
    have hne : Hid (l1 ≠ l2) := Lib.hid (fun h => hnm (by rw [HN.out, h]))
    obtain ⟨l, hl⟩ : ∃ l, l = l2.length := ⟨_, rfl⟩
    rw [← hl] at hnm' f2 ⊢
    clear hn hnm hl HN X1 X2
    go_enter Tryz.func53, Tryz.ntmps53
    go_wp2_with fail
    go_ret
    exact EqR.no hne.out (Keep.refl _)
set_option maxHeartbeats 4000000 in
set_option maxRecDepth 100000 in
theorem ipeq_B (l1 l2 : List Nat) (v1 v2 : Value) (w : World) (h1 : SlAt w v1 l1.length (l1.flatMap byteRow)) (h2 : SlAt w v2 l2.length (l2.flatMap byteRow)) (f1 : l1.length ≤ 1000000) (f2 : l2.length ≤ 1000000) :
    Calls Tryz.prog 54 #[v1, v2] w (EqR l1 l2 w) := by
  obtain ⟨p1, c1, rfl, hc1, x1⟩ := SlAt.rowsEq (f := byteRow) (m := 1) (fun _ => rfl) (by decide) h1
  obtain ⟨p2, c2, rfl, hc2, x2⟩ := SlAt.rowsEq (f := byteRow) (m := 1) (fun _ => rfl) (by decide) h2
  clear h1 h2 hc1 hc2
  have X1 := Lib.hid x1
  have X2 := Lib.hid x2
  clear x1 x2
  obtain ⟨n, hn⟩ : ∃ n, n = l1.length := ⟨_, rfl⟩
  rw [← hn] at f1 ⊢
  have HN := Lib.hid hn
  by_cases hnm : n = l2.length
  · rw [← hnm]
    have HM := Lib.hid hnm
    clear f2 hn hnm
    go_enter Tryz.func54, Tryz.ntmps54
    go_wp2_with fail
    go_loopw [5, 13] (fun _ i wr => ∃ k : Nat, k ≤ n ∧ i = .int .i64 (k : Int) ∧ Keep w wr ∧ ∀ (j : Nat) (x y : Nat), j < k → l1[j]? = some x → l2[j]? = some y → x = y) (fun _ i _ => n - (intOf i).toNat)
    case atStart => exact ⟨0, Nat.zero_le _, rfl, Keep.refl _, fun j _ _ hj => absurd hj (Nat.not_lt_zero _)⟩
    case round =>
      obtain ⟨k, hk, rfl, hK, heq⟩ := hrel
      have HQ := Lib.hid heq
      have HK := Lib.hid hK
      clear heq hK
      have k0 : (0 : Int) ≤ (k : Int) := Int.natCast_nonneg _
      by_cases hlt : k < n
      · have hkn : (k : Int) < (n : Int) := by omega
        obtain ⟨x, hx⟩ : ∃ x, l1[k]? = some x := ⟨_, List.getElem?_eq_getElem (by rw [← HN.out]; exact hlt)⟩
        obtain ⟨y, hy⟩ : ∃ y, l2[k]? = some y := ⟨_, List.getElem?_eq_getElem (by rw [← HM.out]; exact hlt)⟩
        rcases X1.out with hnil | ⟨b1, o1, rfl, hb1, y1⟩
        · rw [hnil] at hx; simp at hx
        rcases X2.out with hnil | ⟨b2, o2, rfl, hb2, y2⟩
        · rw [hnil] at hy; simp at hy
        have qx0 : Hid (wr.cell? ⟨b1, o1 + k, none⟩ = some (.int .u8 (x : Int))) := Lib.hid (by have := y1 k x hx 0 (by decide); rw [Nat.mul_one, Nat.add_zero] at this; exact HK.out.cellOf this)
        have qy0 : Hid (wr.cell? ⟨b2, o2 + k, none⟩ = some (.int .u8 (y : Int))) := Lib.hid (by have := y2 k y hy 0 (by decide); rw [Nat.mul_one, Nat.add_zero] at this; exact HK.out.cellOf this)
        have HX := Lib.hid hx
        have HY := Lib.hid hy
        clear hx hy y1 y2
        rcases Bool.eq_false_or_eq_true ((x : Int) == (y : Int)) with d | d
        · have hxy := Lib.hid ((u8_iff x y).1 d)
          have d2 : ((x : Int) != (y : Int)) = false := by rw [bne, d]; rfl
          go_wp2_with fail
          refine region_grows (Keep wr) (by kernel_rfl) (by kernel_rfl) (Keep.refl _).drew ?_
          repeat (first
            | (apply text_pass (by rfl); go_simp)
            | (apply text_step (by rfl)
               · intro W hW
                 have rqx0 := hW.cellOf qx0.out
                 have rqy0 := hW.cellOf qy0.out
                 go_simp
                 exact ⟨rfl, hW⟩
               go_simp))
          apply text_end
          intro W hW
          have HW := Lib.hid (HK.out.trans hW)
          clear hW
          go_wp2_with fail
          refine ⟨⟨k + 1, hlt, by simp, HW.out, fun j a b hj ha hb => ?_⟩, by simp [intOf]; omega⟩
          by_cases e : j = k
          · subst e
            rw [HX.out] at ha
            rw [HY.out] at hb
            cases ha
            cases hb
            exact hxy.out
          · exact HQ.out j a b (by omega) ha hb
        · have hne : Hid (l1 ≠ l2) := Lib.hid (fun h => by
            have h1 := HX.out
            rw [h, HY.out] at h1
            cases h1
            rw [(u8_iff _ _).2 rfl] at d
            cases d)
          have d2 : ((x : Int) != (y : Int)) = true := by rw [bne, d]; rfl
          go_wp2_with fail
          refine region_grows (Keep wr) (by kernel_rfl) (by kernel_rfl) (Keep.refl _).drew ?_
          repeat (first
            | (apply text_pass (by rfl); go_simp)
            | (apply text_step (by rfl)
               · intro W hW
                 have rqx0 := hW.cellOf qx0.out
                 have rqy0 := hW.cellOf qy0.out
                 go_simp
                 exact ⟨rfl, hW⟩
               go_simp))
          apply text_end
          intro W hW
          have HW := Lib.hid (HK.out.trans hW)
          clear hW
          go_wp2_with fail
          go_ret
          exact EqR.no hne.out HW.out
      · obtain rfl : k = n := by omega
        have he : Hid (l1 = l2) := Lib.hid (list_eq_of (by rw [← HN.out, ← HM.out]) (fun j x y h1 h2 => HQ.out j x y (by rw [HN.out]; exact (List.getElem?_eq_some_iff.1 h1).1) h1 h2))
        go_wp2_with fail
        go_ret
        exact EqR.yes he.out HK.out
  · have hnm' : ¬ (n : Int) = (l2.length : Int) := by omega
    have hne : Hid (l1 ≠ l2) := Lib.hid (fun h => hnm (by rw [HN.out, h]))
    obtain ⟨l, hl⟩ : ∃ l, l = l2.length := ⟨_, rfl⟩
    rw [← hl] at hnm' f2 ⊢
    clear hn hnm hl HN X1 X2
    go_enter Tryz.func54, Tryz.ntmps54
    go_wp2_with fail
    go_ret
    exact EqR.no hne.out (Keep.refl _)
set_option maxHeartbeats 4000000 in
set_option maxRecDepth 100000 in
theorem ipeq_U (l1 l2 : List Int) (v1 v2 : Value) (w : World) (h1 : SlAt w v1 l1.length (l1.flatMap uRow)) (h2 : SlAt w v2 l2.length (l2.flatMap uRow)) (f1 : l1.length ≤ 1000000) (f2 : l2.length ≤ 1000000) :
    Calls Tryz.prog 103 #[v1, v2] w (EqR l1 l2 w) := by
  obtain ⟨p1, c1, rfl, hc1, x1⟩ := SlAt.rowsEq (f := uRow) (m := 1) (fun _ => rfl) (by decide) h1
  obtain ⟨p2, c2, rfl, hc2, x2⟩ := SlAt.rowsEq (f := uRow) (m := 1) (fun _ => rfl) (by decide) h2
  clear h1 h2 hc1 hc2
  have X1 := Lib.hid x1
  have X2 := Lib.hid x2
  clear x1 x2
  obtain ⟨n, hn⟩ : ∃ n, n = l1.length := ⟨_, rfl⟩
  rw [← hn] at f1 ⊢
  have HN := Lib.hid hn
  by_cases hnm : n = l2.length
  · rw [← hnm]
    have HM := Lib.hid hnm
    clear f2 hn hnm
    go_enter Tryz.func103, Tryz.ntmps103
    go_wp2_with fail
    go_loopw [5, 13] (fun _ i wr => ∃ k : Nat, k ≤ n ∧ i = .int .i64 (k : Int) ∧ Keep w wr ∧ ∀ (j : Nat) (x y : Int), j < k → l1[j]? = some x → l2[j]? = some y → x = y) (fun _ i _ => n - (intOf i).toNat)
    case atStart => exact ⟨0, Nat.zero_le _, rfl, Keep.refl _, fun j _ _ hj => absurd hj (Nat.not_lt_zero _)⟩
    case round =>
      obtain ⟨k, hk, rfl, hK, heq⟩ := hrel
      have HQ := Lib.hid heq
      have HK := Lib.hid hK
      clear heq hK
      have k0 : (0 : Int) ≤ (k : Int) := Int.natCast_nonneg _
      by_cases hlt : k < n
      · have hkn : (k : Int) < (n : Int) := by omega
        obtain ⟨x, hx⟩ : ∃ x, l1[k]? = some x := ⟨_, List.getElem?_eq_getElem (by rw [← HN.out]; exact hlt)⟩
        obtain ⟨y, hy⟩ : ∃ y, l2[k]? = some y := ⟨_, List.getElem?_eq_getElem (by rw [← HM.out]; exact hlt)⟩
        rcases X1.out with hnil | ⟨b1, o1, rfl, hb1, y1⟩
        · rw [hnil] at hx; simp at hx
        rcases X2.out with hnil | ⟨b2, o2, rfl, hb2, y2⟩
        · rw [hnil] at hy; simp at hy
        have qx0 : Hid (wr.cell? ⟨b1, o1 + k, none⟩ = some (.int .u32 x)) := Lib.hid (by have := y1 k x hx 0 (by decide); rw [Nat.mul_one, Nat.add_zero] at this; exact HK.out.cellOf this)
        have qy0 : Hid (wr.cell? ⟨b2, o2 + k, none⟩ = some (.int .u32 y)) := Lib.hid (by have := y2 k y hy 0 (by decide); rw [Nat.mul_one, Nat.add_zero] at this; exact HK.out.cellOf this)
        have HX := Lib.hid hx
        have HY := Lib.hid hy
        clear hx hy y1 y2
        rcases Bool.eq_false_or_eq_true (x == y) with d | d
        · have hxy := Lib.hid ((int_iff x y).1 d)
          have d2 : (x != y) = false := by rw [bne, d]; rfl
          go_wp2_with fail
          refine region_grows (Keep wr) (by kernel_rfl) (by kernel_rfl) (Keep.refl _).drew ?_
          repeat (first
            | (apply text_pass (by rfl); go_simp)
            | (apply text_step (by rfl)
               · intro W hW
                 have rqx0 := hW.cellOf qx0.out
                 have rqy0 := hW.cellOf qy0.out
                 go_simp
                 exact ⟨rfl, hW⟩
               go_simp))
          apply text_end
          intro W hW
          have HW := Lib.hid (HK.out.trans hW)
          clear hW
          go_wp2_with fail
          refine ⟨⟨k + 1, hlt, by simp, HW.out, fun j a b hj ha hb => ?_⟩, by simp [intOf]; omega⟩
          by_cases e : j = k
          · subst e
            rw [HX.out] at ha
            rw [HY.out] at hb
            cases ha
            cases hb
            exact hxy.out
          · exact HQ.out j a b (by omega) ha hb
        · have hne : Hid (l1 ≠ l2) := Lib.hid (fun h => by
            have h1 := HX.out
            rw [h, HY.out] at h1
            cases h1
            rw [(int_iff _ _).2 rfl] at d
            cases d)
          have d2 : (x != y) = true := by rw [bne, d]; rfl
          go_wp2_with fail
          refine region_grows (Keep wr) (by kernel_rfl) (by kernel_rfl) (Keep.refl _).drew ?_
          repeat (first
            | (apply text_pass (by rfl); go_simp)
            | (apply text_step (by rfl)
               · intro W hW
                 have rqx0 := hW.cellOf qx0.out
                 have rqy0 := hW.cellOf qy0.out
                 go_simp
                 exact ⟨rfl, hW⟩
               go_simp))
          apply text_end
          intro W hW
          have HW := Lib.hid (HK.out.trans hW)
          clear hW
          go_wp2_with fail
          go_ret
          exact EqR.no hne.out HW.out
      · obtain rfl : k = n := by omega
        have he : Hid (l1 = l2) := Lib.hid (list_eq_of (by rw [← HN.out, ← HM.out]) (fun j x y h1 h2 => HQ.out j x y (by rw [HN.out]; exact (List.getElem?_eq_some_iff.1 h1).1) h1 h2))
        go_wp2_with fail
        go_ret
        exact EqR.yes he.out HK.out
  · have hnm' : ¬ (n : Int) = (l2.length : Int) := by omega
    have hne : Hid (l1 ≠ l2) := Lib.hid (fun h => hnm (by rw [HN.out, h]))
    obtain ⟨l, hl⟩ : ∃ l, l = l2.length := ⟨_, rfl⟩
    rw [← hl] at hnm' f2 ⊢
    clear hn hnm hl HN X1 X2
    go_enter Tryz.func103, Tryz.ntmps103
    go_wp2_with fail
    go_ret
    exact EqR.no hne.out (Keep.refl _)
end Go.Proofs.YtbmjnfnekmeegaaGreatDoor

/- The program's samePart; slices.EqualFunc at parts. -/
namespace Go.Proofs.YtbmjnfnekmeegaaGreatDoor
set_option linter.unusedVariables false
set_option linter.unusedSimpArgs false
open Go Go.RowKit
theorem PartV.same_iff (p q : PartV) : p = q ↔ p.name = q.name ∧ p.code = q.code ∧ p.data = q.data ∧ p.stack = q.stack ∧ p.entries = q.entries := by
  obtain ⟨a, b, c, d, e⟩ := p
  obtain ⟨a1, b1, c1, d1, e1⟩ := q
  simp
set_option maxHeartbeats 4000000 in
set_option maxRecDepth 100000 in
theorem isamePart_any (p q : PartV) (v u : Value) (w : World) (hv : SlAt w v p.entries.length (p.entries.map u32V)) (hu : SlAt w u q.entries.length (q.entries.map u32V)) (fv : p.entries.length ≤ 1000000) (fu : q.entries.length ≤ 1000000) :
    Calls Tryz.prog 51 #[.agg #[.string p.name, .int .u32 p.code.at_, .int .u32 p.code.size, .int .u32 p.data.at_, .int .u32 p.data.size, .int .u32 p.stack.at_, .int .u32 p.stack.size, v], .agg #[.string q.name, .int .u32 q.code.at_, .int .u32 q.code.size, .int .u32 q.data.at_, .int .u32 q.data.size, .int .u32 q.stack.at_, .int .u32 q.stack.size, u]] w (EqR p q w) := by
  have CE := Lib.hid (fun W (k : Keep w W) => ipeq_U p.entries q.entries v u W (by rw [← map_urow]; exact hv.keep k) (by rw [← map_urow]; exact hu.keep k) fv fu)
  obtain ⟨a1, c1, rfl, _⟩ := hv
  obtain ⟨a2, c2, rfl, _⟩ := hu
  have K0 : Hid (Keep w ((w.alloc (.cells #[.string p.name, .int .u32 p.code.at_, .int .u32 p.code.size, .int .u32 p.data.at_, .int .u32 p.data.size, .int .u32 p.stack.at_, .int .u32 p.stack.size, .slice a1 p.entries.length c1] 83)).alloc (.cells #[.string q.name, .int .u32 q.code.at_, .int .u32 q.code.size, .int .u32 q.data.at_, .int .u32 q.data.size, .int .u32 q.stack.at_, .int .u32 q.stack.size, .slice a2 q.entries.length c2] 83))) := Lib.hid (((Keep.refl _).alloc _).alloc _)
  have Q1 := fun W => eqin_span p.code q.code W
  have Q2 := fun W => eqin_span p.data q.data W
  have Q3 := fun W => eqin_span p.stack q.stack W
  rcases Bool.eq_false_or_eq_true (p.name.toList == q.name.toList) with d0 | d0
  rotate_left
  · have hne : Hid (p ≠ q) := Lib.hid (fun e => by rw [e, ostr_beq] at d0; simp at d0)
    clear Q1 Q2 Q3 CE
    go_enter Tryz.func51, Tryz.ntmps51
    go_wp2_with fail
    go_ret
    exact EqR.no hne.out K0.out
  have N0 : Hid (p.name = q.name) := Lib.hid (by rw [ostr_beq] at d0; exact of_decide_eq_true d0)
  rcases Bool.eq_false_or_eq_true (sameSp p.code q.code) with d1 | d1
  rotate_left
  · have hne : Hid (p ≠ q) := Lib.hid (fun e => by rw [e, (sameSp_iff _ _).2 rfl] at d1; cases d1)
    rw [d1] at Q1
    clear CE Q2 Q3
    go_enter Tryz.func51, Tryz.ntmps51
    go_wp2_with fail
    go_ret
    exact EqR.no hne.out K0.out
  rw [d1] at Q1
  have N1 : Hid (p.code = q.code) := Lib.hid ((sameSp_iff _ _).1 d1)
  rcases Bool.eq_false_or_eq_true (sameSp p.data q.data) with d2 | d2
  rotate_left
  · have hne : Hid (p ≠ q) := Lib.hid (fun e => by rw [e, (sameSp_iff _ _).2 rfl] at d2; cases d2)
    rw [d2] at Q2
    clear CE Q3
    go_enter Tryz.func51, Tryz.ntmps51
    go_wp2_with fail
    go_ret
    exact EqR.no hne.out K0.out
  rw [d2] at Q2
  have N2 : Hid (p.data = q.data) := Lib.hid ((sameSp_iff _ _).1 d2)
  rcases Bool.eq_false_or_eq_true (sameSp p.stack q.stack) with d3 | d3
  rotate_left
  · have hne : Hid (p ≠ q) := Lib.hid (fun e => by rw [e, (sameSp_iff _ _).2 rfl] at d3; cases d3)
    rw [d3] at Q3
    clear CE 
    go_enter Tryz.func51, Tryz.ntmps51
    go_wp2_with fail
    go_ret
    exact EqR.no hne.out K0.out
  rw [d3] at Q3
  have N3 : Hid (p.stack = q.stack) := Lib.hid ((sameSp_iff _ _).1 d3)
  go_enter Tryz.func51, Tryz.ntmps51
  go_wp2_with fail
  refine (CE.out _ K0.out).mono ?_
  rintro e w2 ⟨b, rfl, hb, hk⟩
  have HB := Lib.hid hb
  have HK := Lib.hid (K0.out.trans hk)
  clear hk hb CE
  cases b with
  | false =>
    go_wp2_with fail
    go_ret
    exact EqR.no (fun e => by have h := HB.out.2 (congrArg PartV.entries e); cases h) HK.out
  | true =>
    go_wp2_with fail
    go_ret
    exact EqR.yes ((PartV.same_iff p q).2 ⟨N0.out, N1.out, N2.out, N3.out, HB.out.1 (by trivial)⟩) HK.out
set_option maxHeartbeats 4000000 in
set_option maxRecDepth 100000 in
theorem ieqParts_any (i j : ImgV) (vp vs vi vb up us ui ub : Value) (ves ues : List Value) (w : World) (h : ImgAt w i vp vs vi vb ves) (h2 : ImgAt w j up us ui ub ues) (fm : ImgMid i) (fm2 : ImgMid j) :
    Calls Tryz.prog 50 #[vp, up, .func (.func 51) #[] #[]] w (EqR i.parts j.parts w) := by
  have HO := Lib.hid h
  have HO2 := Lib.hid h2
  have HM := Lib.hid fm
  have HM2 := Lib.hid fm2
  have fp := fm.parts
  have fp2 := fm2.parts
  obtain ⟨p1, c1, rfl, _, _, _⟩ := h.partsAt
  obtain ⟨p2, c2, rfl, _, _, _⟩ := h2.partsAt
  clear h h2 fm fm2
  by_cases hl : i.parts.length = j.parts.length
  rotate_left
  · have hl2 : ¬ (i.parts.length : Int) = (j.parts.length : Int) := by omega
    have hne : Hid (i.parts ≠ j.parts) := Lib.hid (fun e => hl (by rw [e]))
    clear hl
    go_enter Tryz.func50, Tryz.ntmps50
    go_wp2_with fail
    go_ret
    exact EqR.no hne.out (Keep.refl _)
  have HL := Lib.hid hl
  rw [← hl]
  clear hl fp2
  go_enter Tryz.func50, Tryz.ntmps50
  go_wp2_with fail
  go_loopw [7, 8, 9, 17] (fun _ _ _ ii wr => ∃ k : Nat, k ≤ i.parts.length ∧ ii = .int .i64 (k : Int) ∧ Keep w wr ∧ ∀ (m : Nat) (x y : PartV), m < k → i.parts[m]? = some x → j.parts[m]? = some y → x = y) (fun _ _ _ ii _ => i.parts.length - (intOf ii).toNat)
  case atStart => exact ⟨0, Nat.zero_le _, rfl, Keep.refl _, fun m _ _ hm => absurd hm (Nat.not_lt_zero _)⟩
  case round =>
    obtain ⟨k, hk, rfl, hK, heq⟩ := hrel
    have HQ := Lib.hid heq
    have HK := Lib.hid hK
    clear heq hK
    by_cases hlt : k < i.parts.length
    · have hki : (k : Int) < (i.parts.length : Int) := by omega
      have k0 : (0 : Int) ≤ (k : Int) := Int.natCast_nonneg _
      obtain ⟨x, hx⟩ : ∃ x, i.parts[k]? = some x := ⟨_, List.getElem?_eq_getElem hlt⟩
      obtain ⟨y, hy⟩ : ∃ y, j.parts[k]? = some y := ⟨_, List.getElem?_eq_getElem (by rw [← HL.out]; exact hlt)⟩
      obtain ⟨b1, o1, v1, rfl, s1, x0, x1, x2, x3, x4, x5, x6, x7⟩ := (HO.out.keep HK.out).part8 hx
      obtain ⟨b2, o2, v2, q2, s2, y0, y1, y2, y3, y4, y5, y6, y7⟩ := (HO2.out.keep HK.out).part8 hy
      have HX := Lib.hid hx
      have HY := Lib.hid hy
      have CS := Lib.hid (fun W (kw : Keep wr W) => isamePart_any x y v1 v2 W (SlAt.keep s1 kw) (SlAt.keep s2 kw) (by have := HM.out.ents x (List.mem_of_getElem? HX.out); omega) (by have := HM2.out.ents y (List.mem_of_getElem? HY.out); omega))
      obtain ⟨e1, d1, rfl, _⟩ := s1
      obtain ⟨e2, d2, rfl, _⟩ := s2
      subst q2
      obtain ⟨Wa, hWa⟩ : ∃ Wa, Wa = wr.alloc (.cells #[.string x.name, .int .u32 x.code.at_, .int .u32 x.code.size, .int .u32 x.data.at_, .int .u32 x.data.size, .int .u32 x.stack.at_, .int .u32 x.stack.size, .slice e1 x.entries.length d1] 83) := ⟨_, rfl⟩
      have KA : Hid (Keep wr Wa) := Lib.hid (by rw [hWa]; exact (Keep.refl _).alloc _)
      obtain ⟨Wc, hWc⟩ : ∃ Wc, Wc = Wa.alloc (.cells #[.string y.name, .int .u32 y.code.at_, .int .u32 y.code.size, .int .u32 y.data.at_, .int .u32 y.data.size, .int .u32 y.stack.at_, .int .u32 y.stack.size, .slice e2 y.entries.length d2] 83) := ⟨_, rfl⟩
      have KC : Hid (Keep wr Wc) := Lib.hid (by rw [hWc]; exact KA.out.alloc _)
      have yy0 := KA.out.cellOf y0
      have yy1 := KA.out.cellOf y1
      have yy2 := KA.out.cellOf y2
      have yy3 := KA.out.cellOf y3
      have yy4 := KA.out.cellOf y4
      have yy5 := KA.out.cellOf y5
      have yy6 := KA.out.cellOf y6
      have yy7 := KA.out.cellOf y7
      rw [hWa] at yy0 yy1 yy2 yy3 yy4 yy5 yy6 yy7
      clear hx hy y0 y1 y2 y3 y4 y5 y6 y7
      go_wp2_with fail
      rw [← hWa]
      rw [← hWc]
      clear hWa hWc x0 x1 x2 x3 x4 x5 x6 x7 yy0 yy1 yy2 yy3 yy4 yy5 yy6 yy7
      refine (CS.out _ KC.out).mono ?_
      rintro e w2 ⟨b, rfl, hb, hk2⟩
      have HB := Lib.hid hb
      have HK2 := Lib.hid (HK.out.trans (KC.out.trans hk2))
      clear hk2 hb CS
      cases b with
      | false =>
        have hne : Hid (i.parts ≠ j.parts) := Lib.hid (fun e => by
          have h1 := HX.out
          rw [e, HY.out] at h1
          have h := HB.out.2 (Option.some.inj h1).symm
          cases h)
        go_wp2_with fail
        go_ret
        exact EqR.no hne.out HK2.out
      | true =>
        go_wp2_with fail
        go_roundw
        case rel =>
          refine ⟨k + 1, hlt, by go_num, HK2.out, fun m a c hm ha hc => ?_⟩
          by_cases e : m = k
          · subst e
            rw [HX.out] at ha
            rw [HY.out] at hc
            cases ha
            cases hc
            exact HB.out.1 (by trivial)
          · exact HQ.out m a c (by omega) ha hc
        case measure => simp [intOf]; omega
    · obtain rfl : k = i.parts.length := by omega
      have he : Hid (i.parts = j.parts) := Lib.hid (list_eq_of HL.out (fun m x y h1 h2 => HQ.out m x y (List.getElem?_eq_some_iff.1 h1).1 h1 h2))
      go_wp2_with fail
      go_ret
      exact EqR.yes he.out HK.out
end Go.Proofs.YtbmjnfnekmeegaaGreatDoor

/- The program's Same. -/
namespace Go.Proofs.YtbmjnfnekmeegaaGreatDoor
set_option linter.unusedVariables false
set_option linter.unusedSimpArgs false
open Go Go.RowKit
theorem ImgV.same_iff (i j : ImgV) : i = j ↔ i.size = j.size ∧ i.start = j.start ∧ i.addr = j.addr ∧ i.parts = j.parts ∧ i.shares = j.shares ∧ i.inits = j.inits ∧ i.bytes = j.bytes := by
  obtain ⟨a, b, c, d, e, f, g⟩ := i
  obtain ⟨a1, b1, c1, d1, e1, f1, g1⟩ := j
  simp only [ImgV.mk.injEq]
  constructor
  · rintro ⟨h1, h2, h3, h4, h5, h6, h7⟩; exact ⟨h1, h5, h6, h2, h3, h4, h7⟩
  · rintro ⟨h1, h2, h3, h4, h5, h6, h7⟩; exact ⟨h1, h4, h5, h6, h2, h3, h7⟩
set_option maxHeartbeats 4000000 in
set_option maxRecDepth 100000 in
theorem iSame_aux (i j : ImgV) (vp vs vi vb up us ui ub : Value) (ves ues : List Value) (w : World) (h : ImgAt w i vp vs vi vb ves) (h2 : ImgAt w j up us ui ub ues) (f : ImgMid i) (f2 : ImgMid j) :
    Calls Tryz.prog 17 #[imgVal i vp vs vi vb, imgVal j up us ui ub] w (EqR i j w) := by
  have HP := Lib.hid (fun W (k : Keep w W) => ieqParts_any i j vp vs vi vb up us ui ub ves ues W (h.keep k) (h2.keep k) f f2)
  have HS := Lib.hid (fun W (k : Keep w W) => ipeq_S i.shares j.shares vs us W (h.shares.keep k) (h2.shares.keep k) (by have := f.shares; omega) (by have := f2.shares; omega))
  have HI := Lib.hid (fun W (k : Keep w W) => ipeq_I i.inits j.inits vi ui W (h.inits.keep k) (h2.inits.keep k) (by have := f.inits; omega) (by have := f2.inits; omega))
  have HB := Lib.hid (fun W (k : Keep w W) => ipeq_B i.bytes j.bytes vb ub W (by rw [← map_row]; exact h.bytes.keep k) (by rw [← map_row]; exact h2.bytes.keep k) (by have := f.bytes; omega) (by have := f2.bytes; omega))
  obtain ⟨p1, pc1, rfl, _⟩ := h.parts
  obtain ⟨s1, sc1, rfl, _⟩ := h.shares
  obtain ⟨x1, xc1, rfl, _⟩ := h.inits
  obtain ⟨b1, bc1, rfl, _⟩ := h.bytes
  obtain ⟨p2, pc2, rfl, _⟩ := h2.parts
  obtain ⟨s2, sc2, rfl, _⟩ := h2.shares
  obtain ⟨x2, xc2, rfl, _⟩ := h2.inits
  obtain ⟨b2, bc2, rfl, _⟩ := h2.bytes
  unfold imgVal
  clear h h2 f f2
  obtain ⟨W1, hW1⟩ : ∃ W1, W1 = (w.alloc (.cells #[.int .u32 i.size, .slice p1 i.parts.length pc1, .slice s1 i.shares.length sc1, .slice x1 i.inits.length xc1, .int .i64 i.start, .int .u32 i.addr, .slice b1 i.bytes.length bc1] 40)).alloc (.cells #[.int .u32 j.size, .slice p2 j.parts.length pc2, .slice s2 j.shares.length sc2, .slice x2 j.inits.length xc2, .int .i64 j.start, .int .u32 j.addr, .slice b2 j.bytes.length bc2] 40) := ⟨_, rfl⟩
  have K1 : Hid (Keep w W1) := Lib.hid (by rw [hW1]; exact ((Keep.refl _).alloc _).alloc _)
  have BA : Hid (Box W1 w.heap.size #[.int .u32 i.size, .slice p1 i.parts.length pc1, .slice s1 i.shares.length sc1, .slice x1 i.inits.length xc1, .int .i64 i.start, .int .u32 i.addr, .slice b1 i.bytes.length bc1]) := Lib.hid (by rw [hW1]; exact (Box.new _ _ _).alloc _)
  have BB : Hid (Box W1 (w.heap.size + 1) #[.int .u32 j.size, .slice p2 j.parts.length pc2, .slice s2 j.shares.length sc2, .slice x2 j.inits.length xc2, .int .i64 j.start, .int .u32 j.addr, .slice b2 j.bytes.length bc2]) := Lib.hid (by rw [hW1]; exact Box.new1 _ _ _ _)
  rcases Bool.eq_false_or_eq_true (i.size == j.size) with d0 | d0
  rotate_left
  · have hne : Hid (i ≠ j) := Lib.hid (fun e => by rw [e] at d0; simp at d0)
    clear HP HS HI HB BA BB
    go_enter Tryz.func17, Tryz.ntmps17
    go_wp2_with fail
    go_ret
    exact EqR.no hne.out (((Keep.refl _).alloc _).alloc _)
  have N0 : Hid (i.size = j.size) := Lib.hid (by simpa using d0)
  rcases Bool.eq_false_or_eq_true (i.start == j.start) with d1 | d1
  rotate_left
  · have hne : Hid (i ≠ j) := Lib.hid (fun e => by rw [e] at d1; simp at d1)
    clear HP HS HI HB BA BB
    go_enter Tryz.func17, Tryz.ntmps17
    go_wp2_with fail
    go_ret
    exact EqR.no hne.out (((Keep.refl _).alloc _).alloc _)
  have N1 : Hid (i.start = j.start) := Lib.hid (by simpa using d1)
  rcases Bool.eq_false_or_eq_true (i.addr == j.addr) with d2 | d2
  rotate_left
  · have hne : Hid (i ≠ j) := Lib.hid (fun e => by rw [e] at d2; simp at d2)
    clear HP HS HI HB BA BB
    go_enter Tryz.func17, Tryz.ntmps17
    go_wp2_with fail
    go_ret
    exact EqR.no hne.out (((Keep.refl _).alloc _).alloc _)
  have N2 : Hid (i.addr = j.addr) := Lib.hid (by simpa using d2)
  go_enter Tryz.func17, Tryz.ntmps17
  go_wp2_with fail
  rw [← hW1]
  clear hW1
  refine (HP.out _ K1.out).mono ?_
  rintro e w2 ⟨y2, rfl, hb, hk⟩
  have K2 := Lib.hid (K1.out.trans hk)
  have Y2 := Lib.hid hb
  have BA2 := Lib.hid (BA.out.keep hk)
  have BB2 := Lib.hid (BB.out.keep hk)
  clear hk hb 
  have c0 := BA2.out.cells
  have c1 := BB2.out.cells
  cases y2
  · go_wp2_with fail
    go_ret
    exact EqR.no (fun e => by have h := Y2.out.2 (congrArg ImgV.parts e); cases h) K2.out
  go_wp2_with fail
  refine (HS.out _ K2.out).mono ?_
  rintro e w3 ⟨y3, rfl, hb, hk⟩
  have K3 := Lib.hid (K2.out.trans hk)
  have Y3 := Lib.hid hb
  have BA3 := Lib.hid (BA2.out.keep hk)
  have BB3 := Lib.hid (BB2.out.keep hk)
  clear hk hb c0 c1
  have c0 := BA3.out.cells
  have c1 := BB3.out.cells
  cases y3
  · go_wp2_with fail
    go_ret
    exact EqR.no (fun e => by have h := Y3.out.2 (congrArg ImgV.shares e); cases h) K3.out
  go_wp2_with fail
  refine (HI.out _ K3.out).mono ?_
  rintro e w4 ⟨y4, rfl, hb, hk⟩
  have K4 := Lib.hid (K3.out.trans hk)
  have Y4 := Lib.hid hb
  have BA4 := Lib.hid (BA3.out.keep hk)
  have BB4 := Lib.hid (BB3.out.keep hk)
  clear hk hb c0 c1
  have c0 := BA4.out.cells
  have c1 := BB4.out.cells
  cases y4
  · go_wp2_with fail
    go_ret
    exact EqR.no (fun e => by have h := Y4.out.2 (congrArg ImgV.inits e); cases h) K4.out
  go_wp2_with fail
  refine (HB.out _ K4.out).mono ?_
  rintro e w5 ⟨y5, rfl, hb, hk⟩
  have K5 := Lib.hid (K4.out.trans hk)
  have Y5 := Lib.hid hb
  have BA5 := Lib.hid (BA4.out.keep hk)
  have BB5 := Lib.hid (BB4.out.keep hk)
  clear hk hb c0 c1
  have c0 := BA5.out.cells
  have c1 := BB5.out.cells
  cases y5
  · go_wp2_with fail
    go_ret
    exact EqR.no (fun e => by have h := Y5.out.2 (congrArg ImgV.bytes e); cases h) K5.out
  go_wp2_with fail
  go_ret
  exact EqR.yes ((ImgV.same_iff i j).2 ⟨N0.out, N1.out, N2.out, Y2.out.1 (by trivial), Y3.out.1 (by trivial), Y4.out.1 (by trivial), Y5.out.1 (by trivial)⟩) K5.out
theorem iSame : PImgSame := fun i j vp vs vi vb up us ui ub ves ues w h h2 _ _ f f2 => (iSame_aux i j vp vs vi vb up us ui ub ves ues w h h2 f f2).mono fun _ _ ⟨b, h1, h3, h4⟩ => ⟨b, h1, h3, h4⟩
end Go.Proofs.YtbmjnfnekmeegaaGreatDoor
