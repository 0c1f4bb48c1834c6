/- ImgPSml, ImgPEach: The program's end, holds, meet, among. -/
import Derived.Test.YtbmjnfnekmeegaaGreatDoorImgAt
import Derived.Test.YtbmjnfnekmeegaaGreatDoorGBase
import Derived.IntWalk
import Derived.Test.YtbmjnfnekmeegaaGreatDoorGIpA
import Derived.Test.YtbmjnfnekmeegaaGreatDoorGPlainO
import Derived.Shelf.Abstract
/- The program's end, holds, meet, among. -/
namespace Go.Proofs.YtbmjnfnekmeegaaGreatDoor
set_option linter.unusedVariables false
set_option linter.unusedSimpArgs false
open Go.RowKit
set_option maxHeartbeats 2000000 in
theorem ipend_any (a n : Int) (ha : N32 a) (hn : N32 n) (w : World) : Calls Tryz.prog 172 #[.agg #[.int .u32 a, .int .u32 n]] w fun e w' => e = .returned (.int .u64 (a + n)) ∧ Keep w w' := by
  obtain ⟨a0, a1⟩ := ha
  obtain ⟨n0, n1⟩ := hn
  have w1 : IntKind.u64.wrap a = a := by rw [IntKind.wrap_u64]; omega
  have w2 : IntKind.u64.wrap n = n := by rw [IntKind.wrap_u64]; omega
  have w3 : IntKind.u64.wrap (a + n) = a + n := by rw [IntKind.wrap_u64]; omega
  go_enter Tryz.func172, Tryz.ntmps172
  go_wp2_with fail
  go_ret
  exact ⟨rfl, (Keep.refl _).alloc _⟩
set_option maxHeartbeats 4000000 in
set_option maxRecDepth 100000 in
theorem iholds_any (s : SpanV) (a n : Int) (hs : SpanOk s) (ha : N32 a) (hn : N32 n) (w : World) : Calls Tryz.prog 134 #[.agg #[.int .u32 s.at_, .int .u32 s.size], .int .u32 a, .int .u32 n] w fun e w' => e = .returned (.bool (withinS s a n)) ∧ Keep w w' := by
  have CE := Lib.hid (fun W => ipend_any s.at_ s.size hs.1 hs.2 W)
  have CN := Lib.hid (fun W => ipend_any a n ha hn W)
  obtain ⟨W0, hW0⟩ : ∃ W0, W0 = w.alloc (.cells #[.int .u32 s.at_, .int .u32 s.size] 80) := ⟨_, rfl⟩
  have K0 : Hid (Keep w W0) := Lib.hid (by rw [hW0]; exact (Keep.refl _).alloc _)
  have B0 : Hid (Box W0 w.heap.size #[.int .u32 s.at_, .int .u32 s.size]) := Lib.hid (by rw [hW0]; exact Box.new _ _ _)
  unfold withinS
  clear hs ha hn
  by_cases h : s.at_ ≤ a
  · have d : decide (s.at_ ≤ a) = true := decide_eq_true h
    rw [d, Bool.true_and]
    clear h
    go_enter Tryz.func134, Tryz.ntmps134
    go_wp2_with fail
    rw [← hW0]
    clear hW0
    refine region_grows (Keep W0) (by kernel_rfl) (by kernel_rfl) (Keep.refl _).drew ?_
    repeat (first
      | (apply text_pass (by rfl); go_simp)
      | (apply text_step (by rfl)
         · intro W hW
           have c1 := (B0.out.keep hW).cells
           go_simp
           first
             | (apply yes_enter; go_at_call 172; first | (with_reducible refine (CN.out _).mono ?_; rintro e w' ⟨rfl, hk⟩; exact ⟨rfl, hW.trans hk⟩) | (refine (CE.out _).mono ?_; rintro e w' ⟨rfl, hk⟩; exact ⟨rfl, hW.trans hk⟩))
             | exact ⟨rfl, hW⟩
         go_simp))
    apply text_end
    intro W hW
    have HW := Lib.hid (K0.out.trans hW)
    clear hW
    go_wp2_with fail
    go_ret
    exact ⟨rfl, HW.out⟩
  · have d : decide (s.at_ ≤ a) = false := decide_eq_false h
    rw [d, Bool.false_and]
    clear h
    go_enter Tryz.func134, Tryz.ntmps134
    go_wp2_with fail
    rw [← hW0]
    clear hW0
    refine region_grows (Keep W0) (by kernel_rfl) (by kernel_rfl) (Keep.refl _).drew ?_
    repeat (first
      | (apply text_pass (by rfl); go_simp)
      | (apply text_step (by rfl)
         · intro W hW
           have c1 := (B0.out.keep hW).cells
           go_simp
           exact ⟨rfl, hW⟩
         go_simp))
    apply text_end
    intro W hW
    have HW := Lib.hid (K0.out.trans hW)
    clear hW
    go_wp2_with fail
    go_ret
    exact ⟨rfl, HW.out⟩
theorem meetS_eq (a b : SpanV) (ha : SpanOk a) (hb : SpanOk b) : meetS a b = decide (max a.at_ b.at_ < min (a.at_ + a.size) (b.at_ + b.size)) := by
  obtain ⟨⟨a0, a1⟩, a2, a3⟩ := ha
  obtain ⟨⟨b0, b1⟩, b2, b3⟩ := hb
  unfold meetS
  rw [Bool.eq_iff_iff]
  simp only [Bool.and_eq_true, decide_eq_true_eq]
  omega
set_option maxHeartbeats 4000000 in
set_option maxRecDepth 100000 in
theorem ipmeet_any (a b : SpanV) (ha : SpanOk a) (hb : SpanOk b) (w : World) : Calls Tryz.prog 137 #[.agg #[.int .u32 a.at_, .int .u32 a.size], .agg #[.int .u32 b.at_, .int .u32 b.size]] w fun e w' => e = .returned (.bool (meetS a b)) ∧ Keep w w' := by
  have CA := Lib.hid (fun W => ipend_any a.at_ a.size ha.1 ha.2 W)
  have CB := Lib.hid (fun W => ipend_any b.at_ b.size hb.1 hb.2 W)
  obtain ⟨W0, hW0⟩ : ∃ W0, W0 = (w.alloc (.cells #[.int .u32 a.at_, .int .u32 a.size] 80)).alloc (.cells #[.int .u32 b.at_, .int .u32 b.size] 80) := ⟨_, rfl⟩
  have K0 : Hid (Keep w W0) := Lib.hid (by rw [hW0]; exact ((Keep.refl _).alloc _).alloc _)
  have BA : Hid (Box W0 w.heap.size #[.int .u32 a.at_, .int .u32 a.size]) := Lib.hid (by rw [hW0]; exact (Box.new _ _ _).alloc _)
  have BB : Hid (Box W0 (w.heap.size + 1) #[.int .u32 b.at_, .int .u32 b.size]) := Lib.hid (by rw [hW0]; exact Box.new1 _ _ _ _)
  rw [meetS_eq a b ha hb]
  have wa : IntKind.u64.wrap a.at_ = a.at_ := by
    obtain ⟨⟨a0, a1⟩, a2, a3⟩ := ha
    rw [IntKind.wrap_u64]; omega
  have wb : IntKind.u64.wrap b.at_ = b.at_ := by
    obtain ⟨⟨b0, b1⟩, b2, b3⟩ := hb
    rw [IntKind.wrap_u64]; omega
  clear ha hb
  obtain ⟨p, hp⟩ : ∃ p, max a.at_ b.at_ = p := ⟨_, rfl⟩
  obtain ⟨q, hq⟩ : ∃ q, min (a.at_ + a.size) (b.at_ + b.size) = q := ⟨_, rfl⟩
  rw [hp, hq]
  have HP := Lib.hid hp
  have HQ := Lib.hid hq
  clear hp hq
  go_enter Tryz.func137, Tryz.ntmps137
  go_wp2_with fail
  rw [← hW0]
  clear hW0
  refine region_grows (Keep W0) (by kernel_rfl) (by kernel_rfl) (Keep.refl _).drew ?_
  repeat (first
    | (apply text_pass (by rfl); go_simp)
    | (apply text_step (by rfl)
       · intro W hW
         have c1 := (BA.out.keep hW).cells
         have c2 := (BB.out.keep hW).cells
         go_simp
         first
           | (apply yes_enter; go_at_call 172; first | (with_reducible refine (CA.out _).mono ?_; rintro e w' ⟨rfl, hk⟩; exact ⟨rfl, hW.trans hk⟩) | (refine (CB.out _).mono ?_; rintro e w' ⟨rfl, hk⟩; exact ⟨rfl, hW.trans hk⟩))
           | exact ⟨rfl, hW⟩
       go_simp))
  apply text_end
  intro W hW
  have HW := Lib.hid (K0.out.trans hW)
  clear hW
  go_wp2_with fail
  all_goals (
    go_ret
    refine ⟨?_, HW.out⟩
    refine congrArg (fun z => Ending.returned (Value.bool z)) ?_
    have hp := HP.out
    have hq := HQ.out
    rw [decide_eq_decide]
    omega)
set_option maxHeartbeats 2000000 in
theorem ipamong_any (k : Int) (n : Nat) (hn : n ≤ 1000000) (w : World) : Calls Tryz.prog 141 #[.int .i64 k, .int .i64 (n : Int)] w fun e w' => e = .returned (.bool (decide (0 ≤ k) && decide (k < (n : Int)))) ∧ Keep w w' := by
  by_cases h : 0 ≤ k
  · have d : decide (0 ≤ k) = true := decide_eq_true h
    rw [d, Bool.true_and]
    clear h
    go_enter Tryz.func141, Tryz.ntmps141
    go_wp2_with fail
    go_ret
    exact ⟨rfl, Keep.refl _⟩
  · have d : decide (0 ≤ k) = false := decide_eq_false h
    rw [d, Bool.false_and]
    clear h
    go_enter Tryz.func141, Tryz.ntmps141
    go_wp2_with fail
    go_ret
    exact ⟨rfl, Keep.refl _⟩
end Go.Proofs.YtbmjnfnekmeegaaGreatDoor

/- The program's each, ContainsFunc, whatever they ask. -/
namespace Go.Proofs.YtbmjnfnekmeegaaGreatDoor
set_option linter.unusedVariables false
set_option linter.unusedSimpArgs false
open Go Go.RowKit
/-- The first one with which something is wrong. -/
def fstW (t : ByteArray) (n : Nat) (f : Nat → Int) : WrV := match firstE f n 0 with
  | some (k, e) => (t, (k : Int), e)
  | none => okW
theorem fstW_hit {t : ByteArray} {n k : Nat} {e : Int} {f : Nat → Int} (h : firstE f n 0 = some (k, e)) : fstW t n f = ((t, (k : Int), e) : WrV) := by unfold fstW; rw [h]
theorem fstW_none {t : ByteArray} {n : Nat} {f : Nat → Int} (h : firstE f n 0 = none) : fstW t n f = okW := by unfold fstW; rw [h]
set_option maxHeartbeats 4000000 in
set_option maxRecDepth 100000 in
theorem ieach1_any (kind : ByteArray) (n : Nat) (few : n ≤ 1000000) (g : FuncId) (cap : Value) (f : Nat → Int) (w : World) (he : ∀ args w, (callFunc g args).run Tryz.prog w = .ok (.enter g args) w)
    (hc : ∀ (i : Nat) (W : World), i < n → Keep w W → Calls Tryz.prog g #[.int .i64 (i : Int), cap] W fun e w' => e = .returned (.int .i64 (f i)) ∧ Keep W w') :
    Calls Tryz.prog 94 #[.string kind, .int .i64 (n : Int), .func (.func g) #[] #[cap]] w (IChk w (fstW kind n f)) := by
  have HC := Lib.hid hc
  clear hc
  go_enter Tryz.func94, Tryz.ntmps94
  go_wp2_with fail
  go_loopw [7, 8, 10] (fun _ _ i wr => ∃ k : Nat, k ≤ n ∧ i = .int .i64 (k : Int) ∧ firstE f n 0 = firstE f (n - k) k ∧ Keep w wr) (fun _ _ i _ => n - (intOf i).toNat)
  case atStart => exact ⟨0, Nat.zero_le _, rfl, rfl, Keep.refl _⟩
  case round =>
    obtain ⟨k, hk, rfl, hfi, hK⟩ := hrel
    have HFI := Lib.hid hfi
    have HK := Lib.hid hK
    clear hfi hK
    by_cases hlt : k < n
    · have hki : (k : Int) < (n : Int) := by omega
      have CC := Lib.hid (HC.out k wr hlt HK.out)
      obtain ⟨se, hse⟩ : ∃ se, f k = se := ⟨_, rfl⟩
      rw [hse] at CC
      have HSE := Lib.hid hse
      clear hse
      by_cases z : se = 0
      · subst z
        have HN2 := Lib.hid (HFI.out.trans (first_go hlt HSE.out))
        go_wp2_with fail
        go_at_fn g
        refine CC.out.mono ?_
        rintro e w2 ⟨rfl, hk2⟩
        have HK2 := Lib.hid (HK.out.trans hk2)
        clear hk2
        go_wp2_with fail
        refine (ifault_zero _ _ _).mono ?_
        rintro e w3 ⟨rfl, hk3⟩
        have HK3 := Lib.hid (HK2.out.trans hk3)
        clear hk3
        go_wp2_with fail
        go_roundw
        case rel => exact ⟨k + 1, hlt, by go_num, HN2.out, HK3.out⟩
        case measure => simp [intOf]; omega
      · have Z := Lib.hid z
        have HH := Lib.hid (HFI.out.trans (first_hit hlt (by rw [HSE.out]; exact z)))
        go_wp2_with fail
        go_at_fn g
        refine CC.out.mono ?_
        rintro e w2 ⟨rfl, hk2⟩
        have HK2 := Lib.hid (HK.out.trans hk2)
        clear hk2
        go_wp2_with fail
        refine (ifault_not _ _ _ Z.out _).mono ?_
        rintro e w3 ⟨q, rfl, _, hB, hk3⟩
        have HK3 := Lib.hid (HK2.out.trans hk3)
        have HB := Lib.hid hB
        clear hk3 hB
        unfold faultP
        go_wp2_with fail
        go_ret
        rw [fstW_hit HH.out, HSE.out]
        exact IChk.bad Z.out HB.out HK3.out
    · obtain rfl : k = n := by omega
      have HS0 : Hid (firstE f k 0 = none) := Lib.hid (by rw [HFI.out, Nat.sub_self]; rfl)
      go_wp2_with fail
      go_ret
      rw [fstW_none HS0.out]
      exact IChk.nil HK.out
set_option maxHeartbeats 4000000 in
set_option maxRecDepth 100000 in
theorem ieach2_any (kind : ByteArray) (n : Nat) (few : n ≤ 1000000) (g : FuncId) (cap cap2 : Value) (f : Nat → Int) (w : World) (he : ∀ args w, (callFunc g args).run Tryz.prog w = .ok (.enter g args) w)
    (hc : ∀ (i : Nat) (W : World), i < n → Keep w W → Calls Tryz.prog g #[.int .i64 (i : Int), cap, cap2] W fun e w' => e = .returned (.int .i64 (f i)) ∧ Keep W w') :
    Calls Tryz.prog 94 #[.string kind, .int .i64 (n : Int), .func (.func g) #[] #[cap, cap2]] w (IChk w (fstW kind n f)) := by
  have HC := Lib.hid hc
  clear hc
  go_enter Tryz.func94, Tryz.ntmps94
  go_wp2_with fail
  go_loopw [7, 8, 10] (fun _ _ i wr => ∃ k : Nat, k ≤ n ∧ i = .int .i64 (k : Int) ∧ firstE f n 0 = firstE f (n - k) k ∧ Keep w wr) (fun _ _ i _ => n - (intOf i).toNat)
  case atStart => exact ⟨0, Nat.zero_le _, rfl, rfl, Keep.refl _⟩
  case round =>
    obtain ⟨k, hk, rfl, hfi, hK⟩ := hrel
    have HFI := Lib.hid hfi
    have HK := Lib.hid hK
    clear hfi hK
    by_cases hlt : k < n
    · have hki : (k : Int) < (n : Int) := by omega
      have CC := Lib.hid (HC.out k wr hlt HK.out)
      obtain ⟨se, hse⟩ : ∃ se, f k = se := ⟨_, rfl⟩
      rw [hse] at CC
      have HSE := Lib.hid hse
      clear hse
      by_cases z : se = 0
      · subst z
        have HN2 := Lib.hid (HFI.out.trans (first_go hlt HSE.out))
        go_wp2_with fail
        go_at_fn g
        refine CC.out.mono ?_
        rintro e w2 ⟨rfl, hk2⟩
        have HK2 := Lib.hid (HK.out.trans hk2)
        clear hk2
        go_wp2_with fail
        refine (ifault_zero _ _ _).mono ?_
        rintro e w3 ⟨rfl, hk3⟩
        have HK3 := Lib.hid (HK2.out.trans hk3)
        clear hk3
        go_wp2_with fail
        go_roundw
        case rel => exact ⟨k + 1, hlt, by go_num, HN2.out, HK3.out⟩
        case measure => simp [intOf]; omega
      · have Z := Lib.hid z
        have HH := Lib.hid (HFI.out.trans (first_hit hlt (by rw [HSE.out]; exact z)))
        go_wp2_with fail
        go_at_fn g
        refine CC.out.mono ?_
        rintro e w2 ⟨rfl, hk2⟩
        have HK2 := Lib.hid (HK.out.trans hk2)
        clear hk2
        go_wp2_with fail
        refine (ifault_not _ _ _ Z.out _).mono ?_
        rintro e w3 ⟨q, rfl, _, hB, hk3⟩
        have HK3 := Lib.hid (HK2.out.trans hk3)
        have HB := Lib.hid hB
        clear hk3 hB
        unfold faultP
        go_wp2_with fail
        go_ret
        rw [fstW_hit HH.out, HSE.out]
        exact IChk.bad Z.out HB.out HK3.out
    · obtain rfl : k = n := by omega
      have HS0 : Hid (firstE f k 0 = none) := Lib.hid (by rw [HFI.out, Nat.sub_self]; rfl)
      go_wp2_with fail
      go_ret
      rw [fstW_none HS0.out]
      exact IChk.nil HK.out
set_option maxHeartbeats 4000000 in
set_option maxRecDepth 100000 in
theorem icontS_any_idx (l : List SpanV) (p : Option Addr) (cap : Nat) (w : World) (hcap : l.length ≤ cap) (hl : l = [] ∨ ∃ b off, p = some ⟨b, off, none⟩ ∧ ∀ (j : Nat) (s : SpanV), l[j]? = some s → w.cell? ⟨b, off + j * 2, none⟩ = some (.int .u32 s.at_) ∧ w.cell? ⟨b, off + j * 2 + 1, none⟩ = some (.int .u32 s.size)) (k : Nat) (hk : k ≤ l.length) (few : l.length ≤ 1000000) (g : FuncId) (cp : Value) (f : SpanV → Bool) (he : ∀ args w, (callFunc g args).run Tryz.prog w = .ok (.enter g args) w)
    (hc : ∀ s ∈ l, ∀ W, Keep w W → Calls Tryz.prog g #[.agg #[.int .u32 s.at_, .int .u32 s.size], cp] W fun e w' => e = .returned (.bool (f s)) ∧ Keep W w') : Calls Tryz.prog 173 #[.slice p k cap, .func (.func g) #[] #[cp]] w fun e w' => ∃ n : Int, e = .returned (.int .i64 n) ∧ decide (0 ≤ n) = (l.take k).any f ∧ Keep w w' := by
  have HC := Lib.hid hc
  have HL := Lib.hid hl
  clear hl
  clear hc
  go_enter Tryz.func173, Tryz.ntmps173
  go_wp2_with fail
  go_loopw [5, 8] (fun _ ii wr => ∃ j : Nat, j ≤ k ∧ ii = .int .i64 (j : Int) ∧ (l.take j).any f = false ∧ Keep w wr) (fun _ ii _ => k - (intOf ii).toNat)
  case atStart => exact ⟨0, Nat.zero_le _, rfl, by simp, Keep.refl _⟩
  case round =>
    obtain ⟨j, hj, rfl, hA, hK⟩ := hrel
    have HA := Lib.hid hA
    have HK := Lib.hid hK
    clear hA hK
    by_cases hlt : j < k
    · have hji : (j : Int) < (k : Int) := by omega
      obtain ⟨x, hx⟩ : ∃ x, l[j]? = some x := ⟨_, List.getElem?_eq_getElem (by omega)⟩
      have CC := Lib.hid (HC.out x (List.mem_of_getElem? hx) wr HK.out)
      obtain ⟨b, off, hp, hcl⟩ : ∃ b off, p = some ⟨b, off, none⟩ ∧ ∀ (j : Nat) (s : SpanV), l[j]? = some s → w.cell? ⟨b, off + j * 2, none⟩ = some (.int .u32 s.at_) ∧ w.cell? ⟨b, off + j * 2 + 1, none⟩ = some (.int .u32 s.size) := by
        rcases HL.out with e | e
        · rw [e] at hx; simp at hx
        · exact e
      have c0 := HK.out.cellOf (hcl j x hx).1
      have c1 := HK.out.cellOf (hcl j x hx).2
      subst hp
      clear hcl
      have HT : Hid ((l.take (j + 1)).any f = f x) := Lib.hid (by
        have h1 := HA.out
        rw [List.take_add_one, hx, List.any_append, h1]
        simp)
      have HX := Lib.hid hx
      clear hx
      obtain ⟨t, ht⟩ : ∃ t, f x = t := ⟨_, rfl⟩
      rw [ht] at CC HT
      clear ht
      go_wp2_with fail
      go_at_fn g
      refine CC.out.mono ?_
      rintro e w2 ⟨rfl, hk2⟩
      have HK2 := Lib.hid (HK.out.trans hk2)
      clear hk2 CC
      cases t with
      | true =>
        go_wp2_with fail
        go_ret
        refine ⟨(j : Int), rfl, ?_, HK2.out⟩
        rw [decide_eq_true (Int.natCast_nonneg _)]
        symm
        rw [List.any_eq_true]
        have h1 := HT.out
        rw [List.any_eq_true] at h1
        obtain ⟨y, hy, hf⟩ := h1
        exact ⟨y, (List.take_subset_take_left _ (by omega)) hy, hf⟩
      | false =>
        go_wp2_with fail
        go_roundw
        case rel => exact ⟨j + 1, hlt, by go_num, HT.out, HK2.out⟩
        case measure => simp [intOf]; omega
    · obtain rfl : j = k := by omega
      go_wp2_with fail
      go_ret
      exact ⟨-1, rfl, by rw [HA.out]; rfl, HK.out⟩
set_option maxHeartbeats 4000000 in
set_option maxRecDepth 100000 in
theorem icontS_any (l : List SpanV) (p : Option Addr) (cap : Nat) (w : World) (hcap : l.length ≤ cap) (hl : l = [] ∨ ∃ b off, p = some ⟨b, off, none⟩ ∧ ∀ (j : Nat) (s : SpanV), l[j]? = some s → w.cell? ⟨b, off + j * 2, none⟩ = some (.int .u32 s.at_) ∧ w.cell? ⟨b, off + j * 2 + 1, none⟩ = some (.int .u32 s.size)) (k : Nat) (hk : k ≤ l.length) (few : l.length ≤ 1000000) (g : FuncId) (cp : Value) (f : SpanV → Bool) (he : ∀ args w, (callFunc g args).run Tryz.prog w = .ok (.enter g args) w)
    (hc : ∀ s ∈ l, ∀ W, Keep w W → Calls Tryz.prog g #[.agg #[.int .u32 s.at_, .int .u32 s.size], cp] W fun e w' => e = .returned (.bool (f s)) ∧ Keep W w') : Calls Tryz.prog 135 #[.slice p k cap, .func (.func g) #[] #[cp]] w fun e w' => e = .returned (.bool ((l.take k).any f)) ∧ Keep w w' := by
  have C := Lib.hid (icontS_any_idx l p cap w hcap hl k hk few g cp f he hc)
  obtain ⟨t, ht⟩ : ∃ t, (l.take k).any f = t := ⟨_, rfl⟩
  rw [ht] at C ⊢
  clear hc ht hl
  go_enter Tryz.func135, Tryz.ntmps135
  go_wp2_with fail
  refine C.out.mono ?_
  rintro e w2 ⟨n, rfl, hn, hk2⟩
  have HK := Lib.hid hk2
  clear hk2 C
  cases t with
  | true =>
    have h0 : 0 ≤ n := of_decide_eq_true hn
    go_wp2_with fail
    go_ret
    exact ⟨rfl, HK.out⟩
  | false =>
    have h0 : ¬ 0 ≤ n := of_decide_eq_false hn
    go_wp2_with fail
    go_ret
    exact ⟨rfl, HK.out⟩
set_option maxHeartbeats 4000000 in
set_option maxRecDepth 100000 in
theorem icontP_any_idx (i : ImgV) (p : Option Addr) (cap : Nat) (vs vi vb : Value) (ves : List Value) (w : World) (h : ImgAt w i (.slice p i.parts.length cap) vs vi vb ves) (k : Nat) (hk : k ≤ i.parts.length) (few : i.parts.length ≤ 1000000) (g : FuncId) (cp : Value) (f : PartV → Bool) (he : ∀ args w, (callFunc g args).run Tryz.prog w = .ok (.enter g args) w)
    (hc : ∀ (j : Nat) (x : PartV) (v : Value), i.parts[j]? = some x → ves[j]? = some v → ∀ W, Keep w W → Calls Tryz.prog g #[.agg #[.string x.name, .int .u32 x.code.at_, .int .u32 x.code.size, .int .u32 x.data.at_, .int .u32 x.data.size, .int .u32 x.stack.at_, .int .u32 x.stack.size, v], cp] W fun e w' => e = .returned (.bool (f x)) ∧ Keep W w') : Calls Tryz.prog 176 #[.slice p k cap, .func (.func g) #[] #[cp]] w fun e w' => ∃ n : Int, e = .returned (.int .i64 n) ∧ decide (0 ≤ n) = (i.parts.take k).any f ∧ Keep w w' := by
  have HC := Lib.hid hc
  have HI := Lib.hid h
  obtain ⟨p', cap', e0, hcap, _, hpp⟩ := h.partsAt
  have e1 := Value.slice.inj e0
  obtain ⟨rfl, _, rfl⟩ := e1
  have nves := h.nves
  have HPP := Lib.hid hpp
  clear hpp e0 h
  clear hc
  go_enter Tryz.func176, Tryz.ntmps176
  go_wp2_with fail
  go_loopw [5, 8] (fun _ ii wr => ∃ j : Nat, j ≤ k ∧ ii = .int .i64 (j : Int) ∧ (i.parts.take j).any f = false ∧ Keep w wr) (fun _ ii _ => k - (intOf ii).toNat)
  case atStart => exact ⟨0, Nat.zero_le _, rfl, by simp, Keep.refl _⟩
  case round =>
    obtain ⟨j, hj, rfl, hA, hK⟩ := hrel
    have HA := Lib.hid hA
    have HK := Lib.hid hK
    clear hA hK
    by_cases hlt : j < k
    · have hji : (j : Int) < (k : Int) := by omega
      obtain ⟨x, hx⟩ : ∃ x, i.parts[j]? = some x := ⟨_, List.getElem?_eq_getElem (by omega)⟩
      obtain ⟨ve, hve⟩ : ∃ ve, ves[j]? = some ve := ⟨_, List.getElem?_eq_getElem (by omega)⟩
      have CC := Lib.hid (HC.out j x ve hx hve wr HK.out)
      obtain ⟨b, off, hp, hb, hcl⟩ : ∃ b off, p = some ⟨b, off, none⟩ ∧ b < w.heap.size ∧ _ := by
        rcases HPP.out with e | e
        · rw [e] at hx; simp at hx
        · exact e
      have hcl := hcl j x ve hx hve
      have c0 := HK.out.cellOf hcl.1
      have c1 := HK.out.cellOf hcl.2.1
      have c2 := HK.out.cellOf hcl.2.2.1
      have c3 := HK.out.cellOf hcl.2.2.2.1
      have c4 := HK.out.cellOf hcl.2.2.2.2.1
      have c5 := HK.out.cellOf hcl.2.2.2.2.2.1
      have c6 := HK.out.cellOf hcl.2.2.2.2.2.2.1
      have c7 := HK.out.cellOf hcl.2.2.2.2.2.2.2
      subst hp
      clear hcl hve
      have HT : Hid ((i.parts.take (j + 1)).any f = f x) := Lib.hid (by
        have h1 := HA.out
        rw [List.take_add_one, hx, List.any_append, h1]
        simp)
      have HX := Lib.hid hx
      clear hx
      obtain ⟨t, ht⟩ : ∃ t, f x = t := ⟨_, rfl⟩
      rw [ht] at CC HT
      clear ht
      go_wp2_with fail
      go_at_fn g
      refine CC.out.mono ?_
      rintro e w2 ⟨rfl, hk2⟩
      have HK2 := Lib.hid (HK.out.trans hk2)
      clear hk2 CC
      cases t with
      | true =>
        go_wp2_with fail
        go_ret
        refine ⟨(j : Int), rfl, ?_, HK2.out⟩
        rw [decide_eq_true (Int.natCast_nonneg _)]
        symm
        rw [List.any_eq_true]
        have h1 := HT.out
        rw [List.any_eq_true] at h1
        obtain ⟨y, hy, hf⟩ := h1
        exact ⟨y, (List.take_subset_take_left _ (by omega)) hy, hf⟩
      | false =>
        go_wp2_with fail
        go_roundw
        case rel => exact ⟨j + 1, hlt, by go_num, HT.out, HK2.out⟩
        case measure => simp [intOf]; omega
    · obtain rfl : j = k := by omega
      go_wp2_with fail
      go_ret
      exact ⟨-1, rfl, by rw [HA.out]; rfl, HK.out⟩
set_option maxHeartbeats 4000000 in
set_option maxRecDepth 100000 in
theorem icontP_any (i : ImgV) (p : Option Addr) (cap : Nat) (vs vi vb : Value) (ves : List Value) (w : World) (h : ImgAt w i (.slice p i.parts.length cap) vs vi vb ves) (k : Nat) (hk : k ≤ i.parts.length) (few : i.parts.length ≤ 1000000) (g : FuncId) (cp : Value) (f : PartV → Bool) (he : ∀ args w, (callFunc g args).run Tryz.prog w = .ok (.enter g args) w)
    (hc : ∀ (j : Nat) (x : PartV) (v : Value), i.parts[j]? = some x → ves[j]? = some v → ∀ W, Keep w W → Calls Tryz.prog g #[.agg #[.string x.name, .int .u32 x.code.at_, .int .u32 x.code.size, .int .u32 x.data.at_, .int .u32 x.data.size, .int .u32 x.stack.at_, .int .u32 x.stack.size, v], cp] W fun e w' => e = .returned (.bool (f x)) ∧ Keep W w') : Calls Tryz.prog 139 #[.slice p k cap, .func (.func g) #[] #[cp]] w fun e w' => e = .returned (.bool ((i.parts.take k).any f)) ∧ Keep w w' := by
  have C := Lib.hid (icontP_any_idx i p cap vs vi vb ves w h k hk few g cp f he hc)
  obtain ⟨t, ht⟩ : ∃ t, (i.parts.take k).any f = t := ⟨_, rfl⟩
  rw [ht] at C ⊢
  clear hc ht h
  go_enter Tryz.func139, Tryz.ntmps139
  go_wp2_with fail
  refine C.out.mono ?_
  rintro e w2 ⟨n, rfl, hn, hk2⟩
  have HK := Lib.hid hk2
  clear hk2 C
  cases t with
  | true =>
    have h0 : 0 ≤ n := of_decide_eq_true hn
    go_wp2_with fail
    go_ret
    exact ⟨rfl, HK.out⟩
  | false =>
    have h0 : ¬ 0 ≤ n := of_decide_eq_false hn
    go_wp2_with fail
    go_ret
    exact ⟨rfl, HK.out⟩
end Go.Proofs.YtbmjnfnekmeegaaGreatDoor
