/- ObjMid, ObjPName, ObjPFind, ObjPFau, ObjPEq, ObjPSame: Objects of no great size, plain. -/
import Derived.Test.YtahnbeoacdnhjaaDoorObjAt
import Derived.Test.YtahnbeoacdnhjaaDoorObjGood
import Derived.Test.YtahnbeoacdnhjaaDoorObjC
import Derived.Test.YtahnbeoacdnhjaaDoorGErr
import Derived.Test.YtahnbeoacdnhjaaDoorObjNz
import Derived.Test.YtahnbeoacdnhjaaDoorGBase
import Derived.Laws.StructEq
/- Objects of no great size, plain. -/
namespace Go.Proofs.YtahnbeoacdnhjaaDoor
set_option linter.unusedVariables false
set_option linter.unusedSimpArgs false
open Go.RowKit
/-- What of an object is not great. -/
structure ObjMid (o : ObjV) : Prop where
  name : o.name.size ≤ 1000
  code : o.code.length ≤ 100000
  data : o.data.length ≤ 100000
  syms : o.syms.length ≤ 1000
  rels : o.rels.length ≤ 1000
  symN : ∀ s ∈ o.syms, s.name.size ≤ 1000
  relC : ∀ r ∈ o.rels, r.comp.size ≤ 1000
  relN : ∀ r ∈ o.rels, r.name.size ≤ 1000
theorem ObjFew.mid {o : ObjV} (h : ObjFew o) : ObjMid o := by
  refine ⟨?_, ?_, ?_, ?_, ?_, fun s hs => ?_, fun r hr => ?_, fun r hr => ?_⟩
  · have := h.name; omega
  · have := h.code; omega
  · have := h.data; omega
  · have := h.syms; omega
  · have := h.rels; omega
  · have := h.symN s hs; omega
  · have := h.relC r hr; omega
  · have := h.relN r hr; omega
end Go.Proofs.YtahnbeoacdnhjaaDoor

/- The program's letters, digits, Name. -/
namespace Go.Proofs.YtahnbeoacdnhjaaDoor
set_option linter.unusedVariables false
set_option linter.unusedSimpArgs false
open Go.RowKit
theorem pletterO_any (c : Int) (w : World) : Calls Tryd.prog 36 #[.int .u8 c] w fun e w' => e = .returned (.bool (lxLetter c)) ∧ w = w' := by
  rcases (by omega : c < 65 ∨ (65 ≤ c ∧ c ≤ 90) ∨ (91 ≤ c ∧ c ≤ 94) ∨ c = 95 ∨ c = 96 ∨ (97 ≤ c ∧ c ≤ 122) ∨ 123 ≤ c) with h | h | h | h | h | h | h
  · have q : (c == 95) = false := by simp; omega
    rw [show lxLetter c = false by rw [← Bool.not_eq_true, lxLetter_iff]; omega]
    go_enter Tryd.func36, Tryd.ntmps36
    go_wp2_with fail
    go_ret
    exact ⟨rfl, rfl⟩
  · obtain ⟨h2, h3⟩ := h
    have q : (c == 95) = false := by simp; omega
    rw [show lxLetter c = true by rw [lxLetter_iff]; omega]
    go_enter Tryd.func36, Tryd.ntmps36
    go_wp2_with fail
    go_ret
    exact ⟨rfl, rfl⟩
  · obtain ⟨h2, h3⟩ := h
    have q : (c == 95) = false := by simp; omega
    have q2 : decide (c ≤ 90) = false := decide_eq_false (by omega)
    rw [show lxLetter c = false by rw [← Bool.not_eq_true, lxLetter_iff]; omega]
    go_enter Tryd.func36, Tryd.ntmps36
    go_wp2_with fail
    go_ret
    exact ⟨rfl, rfl⟩
  · subst h
    go_enter Tryd.func36, Tryd.ntmps36
    go_wp2_with fail
    go_ret
    exact ⟨rfl, rfl⟩
  · subst h
    go_enter Tryd.func36, Tryd.ntmps36
    go_wp2_with fail
    go_ret
    exact ⟨rfl, rfl⟩
  · obtain ⟨h2, h3⟩ := h
    rw [show lxLetter c = true by rw [lxLetter_iff]; omega]
    go_enter Tryd.func36, Tryd.ntmps36
    go_wp2_with fail
    go_ret
    exact ⟨rfl, rfl⟩
  · have q : (c == 95) = false := by simp; omega
    have q2 : decide (c ≤ 90) = false := decide_eq_false (by omega)
    have q3 : decide (c ≤ 122) = false := decide_eq_false (by omega)
    rw [show lxLetter c = false by rw [← Bool.not_eq_true, lxLetter_iff]; omega]
    go_enter Tryd.func36, Tryd.ntmps36
    go_wp2_with fail
    go_ret
    exact ⟨rfl, rfl⟩
theorem pdigitO_any (c : Int) (w : World) : Calls Tryd.prog 35 #[.int .u8 c] w fun e w' => e = .returned (.bool (lxDigit c)) ∧ w = w' := by
  rcases (by omega : c < 48 ∨ (48 ≤ c ∧ c ≤ 57) ∨ 58 ≤ c) with h | h | h
  · rw [show lxDigit c = false by rw [← Bool.not_eq_true, lxDigit_iff]; omega]
    go_enter Tryd.func35, Tryd.ntmps35
    go_wp2_with fail
    go_ret
    exact ⟨rfl, rfl⟩
  · obtain ⟨h2, h3⟩ := h
    rw [show lxDigit c = true by rw [lxDigit_iff]; omega]
    go_enter Tryd.func35, Tryd.ntmps35
    go_wp2_with fail
    go_ret
    exact ⟨rfl, rfl⟩
  · have q : decide (c ≤ 57) = false := decide_eq_false (by omega)
    rw [show lxDigit c = false by rw [← Bool.not_eq_true, lxDigit_iff]; omega]
    go_enter Tryd.func35, Tryd.ntmps35
    go_wp2_with fail
    go_ret
    exact ⟨rfl, rfl⟩
set_option maxHeartbeats 1000000 in
theorem pname_any (s : ByteArray) (hs : s.size ≤ 140737488355328) (w : World) : Calls Tryd.prog 14 #[.string s] w fun e w' => e = .returned (.bool (goodB s)) ∧ w = w' := by
  by_cases h0 : s.size = 0
  · rw [goodB_none h0]
    have h1 : (s.size : Int) = 0 := by omega
    go_enter Tryd.func14, Tryd.ntmps14
    go_wp2_with fail
    go_ret
    exact ⟨rfl, rfl⟩
  have h0' : 0 < s.size := by omega
  have h0i : (0 : Int) < (s.size : Int) := by omega
  have E := goodB_some h0'
  by_cases h16 : s.size ≤ 16
  · have h16i : (s.size : Int) ≤ 16 := by omega
    have q0 : ((s.size : Int) == 0) = false := beq_eq_false_iff_ne.2 (by omega)
    have q16 : decide ((16 : Int) < (s.size : Int)) = false := decide_eq_false (by omega)
    have CD := Lib.hid (fun W => pdigitO_any (s[0]'h0').toNat W)
    rw [decide_eq_true h16, Bool.and_true] at E
    cases hd : lxDigit (s[0]'h0').toNat with
    | true =>
      rw [hd] at E CD
      rw [E]
      clear hd E
      go_enter Tryd.func14, Tryd.ntmps14
      go_wp2_with ((with_reducible refine (CD.out _).mono ?_); rintro e w' ⟨rfl, rfl⟩)
      go_ret
      exact ⟨rfl, rfl⟩
    | false =>
      rw [hd] at E CD
      rw [Bool.not_false, Bool.true_and] at E
      obtain ⟨g, hg⟩ : ∃ g, g = goodB s := ⟨_, rfl⟩
      rw [← hg] at E ⊢
      have HE := Lib.hid E
      clear hd E hg
      go_enter Tryd.func14, Tryd.ntmps14
      go_wp2_with ((with_reducible refine (CD.out _).mono ?_); rintro e w' ⟨rfl, rfl⟩)
      go_loop [3, 19] (fun _ i => ∃ k : Nat, k ≤ s.size ∧ i = .int .i64 (k : Int) ∧ g = (s.data.toList.drop k).all goodC) (fun _ i => s.size - (intOf i).toNat)
      case atStart => exact ⟨0, Nat.zero_le _, rfl, by rw [List.drop_zero]; exact HE.out⟩
      case round =>
        obtain ⟨k, hk, rfl, hi⟩ := hrel
        have HN := Lib.hid hi
        clear hi
        by_cases h : k < s.size
        · obtain ⟨y, hy⟩ : ∃ y, y = lxLetter (s[k]'h).toNat := ⟨_, rfl⟩
          obtain ⟨z, hz⟩ : ∃ z, z = lxDigit (s[k]'h).toNat := ⟨_, rfl⟩
          have hst : g = ((y || z) && (s.data.toList.drop (k + 1)).all goodC) := by
            have e := all_at (l := s.data.toList) (k := k) (by simpa using h)
            rw [HN.out, e, hy, hz]
            rfl
          have CLk := Lib.hid (fun W => pletterO_any (s[k]'h).toNat W)
          have CDk := Lib.hid (fun W => pdigitO_any (s[k]'h).toNat W)
          rw [← hy] at CLk
          rw [← hz] at CDk
          have hki : (k : Int) < (s.size : Int) := by omega
          clear hy hz
          cases y
          · cases z
            · rw [Bool.or_false, Bool.false_and] at hst
              subst hst
              go_wp2_with (first | ((with_reducible refine (CLk.out _).mono ?_); rintro e w' ⟨rfl, rfl⟩) | ((with_reducible refine (CDk.out _).mono ?_); rintro e w' ⟨rfl, rfl⟩))
              go_ret
              exact ⟨rfl, rfl⟩
            · rw [Bool.or_true, Bool.true_and] at hst
              have HS := Lib.hid hst
              clear hst
              go_wp2_with (first | ((with_reducible refine (CLk.out _).mono ?_); rintro e w' ⟨rfl, rfl⟩) | ((with_reducible refine (CDk.out _).mono ?_); rintro e w' ⟨rfl, rfl⟩))
              go_round
              case rel => exact ⟨k + 1, h, by go_num, HS.out⟩
              case measure => simp [intOf]; omega
          · rw [Bool.true_or, Bool.true_and] at hst
            have HS := Lib.hid hst
            clear hst
            go_wp2_with (first | ((with_reducible refine (CLk.out _).mono ?_); rintro e w' ⟨rfl, rfl⟩) | ((with_reducible refine (CDk.out _).mono ?_); rintro e w' ⟨rfl, rfl⟩))
            go_round
            case rel => exact ⟨k + 1, h, by go_num, HS.out⟩
            case measure => simp [intOf]; omega
        · obtain rfl : k = s.size := by omega
          have e : g = true := by
            rw [HN.out, List.drop_eq_nil_of_le (by simp)]
            rfl
          subst e
          go_wp2_with fail
          go_ret
          exact ⟨rfl, rfl⟩
  · have h16i : (16 : Int) < (s.size : Int) := by omega
    have q0 : ((s.size : Int) == 0) = false := beq_eq_false_iff_ne.2 (by omega)
    have q16 : decide ((16 : Int) < (s.size : Int)) = true := decide_eq_true (by omega)
    have e : goodB s = false := by rw [E, decide_eq_false h16, Bool.and_false, Bool.false_and]
    rw [e]
    clear E e
    go_enter Tryd.func14, Tryd.ntmps14
    go_wp2_with fail
    go_ret
    exact ⟨rfl, rfl⟩
end Go.Proofs.YtahnbeoacdnhjaaDoor

/- The program's Find. -/
namespace Go.Proofs.YtahnbeoacdnhjaaDoor
set_option linter.unusedVariables false
set_option linter.unusedSimpArgs false
open Go.RowKit
set_option maxHeartbeats 2000000 in
set_option maxRecDepth 100000 in
theorem pfindO_any (o : ObjV) (vc vd vs vr : Value) (n : ByteArray) (w : World) (h : ObjAt w o vc vd vs vr) (few : o.syms.length ≤ 1000000) : Calls Tryd.prog 10 #[objVal o vc vd vs vr, .string n] w fun e w' => FindR o.syms n e ∧ Keep w w' := by
  obtain ⟨p, cap, rfl, hcap, hx⟩ := h.symsAt
  unfold objVal
  clear h
  have K0 : Hid (Keep w ((w.alloc (.cells #[.string o.name, vc, vd, .slice p o.syms.length cap, vr] 26)).alloc (.cells #[.string ⟨#[]⟩, .bool false, .int .u32 0, .bool false] 47))) := Lib.hid (((Keep.refl _).alloc _).alloc _)
  have R0 : Hid (Box ((w.alloc (.cells #[.string o.name, vc, vd, .slice p o.syms.length cap, vr] 26)).alloc (.cells #[.string ⟨#[]⟩, .bool false, .int .u32 0, .bool false] 47)) (w.heap.size + 1) #[.string ⟨#[]⟩, .bool false, .int .u32 0, .bool false]) := Lib.hid (Box.new1 _ _ _ _)
  have HX : Hid (o.syms = [] ∨ ∃ b off, p = some ⟨b, off, none⟩ ∧ b < w.heap.size ∧ ∀ (i : Nat) (s : SymV), o.syms[i]? = some s → w.cell? ⟨b, off + i * 4, none⟩ = some (.string s.name) ∧ w.cell? ⟨b, off + i * 4 + 1, none⟩ = some (.bool s.data) ∧ w.cell? ⟨b, off + i * 4 + 2, none⟩ = some (.int .u32 s.off) ∧ w.cell? ⟨b, off + i * 4 + 3, none⟩ = some (.bool s.exp)) := Lib.hid hx
  clear hx
  go_enter Tryd.func10, Tryd.ntmps10
  go_wp2_with fail
  have AS := Lib.hid (Keep.refl ((w.alloc (.cells #[.string o.name, vc, vd, .slice p o.syms.length cap, vr] 26)).alloc (.cells #[.string ⟨#[]⟩, .bool false, .int .u32 0, .bool false] 47)))
  go_loopw [7, 11] (fun _ i wr => ∃ k : Nat, k ≤ o.syms.length ∧ i = .int .i64 (k : Int) ∧ (∀ (j : Nat) (x : SymV), j < k → o.syms[j]? = some x → x.name ≠ n) ∧ Keep ((w.alloc (.cells #[.string o.name, vc, vd, .slice p o.syms.length cap, vr] 26)).alloc (.cells #[.string ⟨#[]⟩, .bool false, .int .u32 0, .bool false] 47)) wr) (fun _ i _ => o.syms.length - (intOf i).toNat)
  case atStart => exact ⟨0, Nat.zero_le _, rfl, (fun j x hj => absurd hj (by omega)), AS.out⟩
  case round =>
    obtain ⟨k, hk, rfl, hno, hK⟩ := hrel
    have HN := Lib.hid hno
    have HK := Lib.hid hK
    clear hno hK
    have szr := HK.out.size
    have szr2 : w.heap.size + 2 ≤ wr.heap.size := by simpa using szr
    have KR := Lib.hid (K0.out.trans HK.out)
    clear szr
    by_cases hlt : k < o.syms.length
    · obtain ⟨x, hx⟩ : ∃ x, o.syms[k]? = some x := ⟨_, List.getElem?_eq_getElem hlt⟩
      have HKx := Lib.hid hx
      have hki : (k : Int) < (o.syms.length : Int) := by omega
      rcases HX.out with hnil | ⟨b, off, rfl, hb, hxx⟩
      · rw [hnil] at hx; simp at hx
      obtain ⟨n0, n1, n2, n3⟩ := hxx k x hx
      replace n0 := KR.out.cellOf n0
      replace n1 := KR.out.cellOf n1
      replace n2 := KR.out.cellOf n2
      replace n3 := KR.out.cellOf n3
      have R1 := ((R0.out.keep HK.out).alloc (.cells #[.string x.name, .bool x.data, .int .u32 x.off, .bool x.exp] 47))
      have r0 := R1.cells
      have rf := R1.thawed
      clear hx hxx R1
      rcases Bool.eq_false_or_eq_true (x.name.toList == n.toList) with d | d
      · have e : x.name = n := by
          rw [ostr_beq] at d
          exact of_decide_eq_true d
        have HF := Lib.hid (findS_at n x _ k HKx.out e HN.out)
        clear e
        go_wp2_with fail
        refine bodyPost_ret (v := .tuple #[symVal x, .bool true]) (by simp [results, Tryd.results10, go_sem, r0, symVal]; done) rfl ⟨by unfold FindR; rw [HF.out], ?_⟩
        repeat (with_reducible refine Keep.setAt ?_ ?_ _; · first | omega | (simp; done) | (simp; omega))
        exact KR.out.alloc _
      · have HS2 : Hid (∀ (j : Nat) (y : SymV), j < k + 1 → o.syms[j]? = some y → y.name ≠ n) := Lib.hid (fun j y hj hy => by
          by_cases e : j = k
          · subst e
            rw [HKx.out] at hy
            cases hy
            intro hc
            rw [ostr_beq, hc] at d
            simp at d
          · exact HN.out j y (by omega) hy)
        go_wp2_with fail
        go_roundw
        case rel => exact ⟨k + 1, hlt, by go_num, HS2.out, HK.out.alloc _⟩
        case measure => simp [intOf]; omega
    · obtain rfl : k = o.syms.length := by omega
      have HF := Lib.hid (findS_no n o.syms (fun j x hj => HN.out j x (List.getElem?_eq_some_iff.1 hj).1 hj))
      have R1 := R0.out.keep HK.out
      have r0 := R1.cells
      have rf := R1.thawed
      clear R1
      go_wp2_with fail
      refine bodyPost_ret (v := .tuple #[symVal noSym, .bool false]) (by simp [results, Tryd.results10, go_sem, r0, symVal, noSym]; done) rfl ⟨by unfold FindR; rw [HF.out], ?_⟩
      repeat (with_reducible refine Keep.setAt ?_ ?_ _; · first | omega | (simp; done) | (simp; omega))
      exact KR.out
theorem oName : PObjName := fun s w hs => (pname_any s (by omega) w).mono fun e w' h => ⟨h.1, h.2 ▸ Keep.refl _⟩
theorem oFind : PObjFind := fun o vc vd vs vr n w h _ hf _ => pfindO_any o vc vd vs vr n w h (by have := hf.syms; omega)
end Go.Proofs.YtahnbeoacdnhjaaDoor

/- The program's fault, section: an Errno of a part; what is wrong with a section. -/
namespace Go.Proofs.YtahnbeoacdnhjaaDoor
set_option linter.unusedVariables false
set_option linter.unusedSimpArgs false
open Go.RowKit Go.Extern.Stop Go.Stop Go.Extern
theorem noIsErrnoO (v : Value) (xT : TypeId) (w : World) : (Instr.typeAssert (.iface 74 v) xT 125 true).run Tryd.prog w = .ok (.tuple #[.nilIface, .bool false]) w := run_typeAssert_lacksB Tryd.underlying125 (by kernel_rfl) (by kernel_rfl) v xT w
theorem noUnwrapErrnoO (v : Value) (xT : TypeId) (w : World) : (Instr.typeAssert (.iface 74 v) xT 120 true).run Tryd.prog w = .ok (.tuple #[.nilIface, .bool false]) w := run_typeAssert_lacksB Tryd.underlying120 (by kernel_rfl) (by kernel_rfl) v xT w
theorem noUnwrapsErrnoO (v : Value) (xT : TypeId) (w : World) : (Instr.typeAssert (.iface 74 v) xT 122 true).run Tryd.prog w = .ok (.tuple #[.nilIface, .bool false]) w := run_typeAssert_lacksB Tryd.underlying122 (by kernel_rfl) (by kernel_rfl) v xT w
set_option maxHeartbeats 2000000 in
/-- errors.Is of a Fault that wraps an Errno, asked for another one: no. -/
theorem is_otherO (q : Nat) (part : ByteArray) (at_ n m : Int) (hnm : ¬ n = m) (w : World) (hB : Box w q #[.string part, .int .i64 at_, .iface 74 (.int .i64 n)]) :
    Calls Tryd.prog 29 #[.iface 68 (.pointer (some ⟨q, 0, none⟩)), .iface 74 (.int .i64 m)] w fun e w' => e = .returned (.bool false) ∧ Keep w w' := by
  have c0 := hB.cells
  have h8 := callTypeOf
  have h32 := callComparable
  have mR := isMethodComparable
  have hd : (n == m) = false := by simpa using hnm
  have heq := fun W => Lib.run_eql_iface_int (P := Tryd.prog) (k := .i64) W n m Tryd.underlying39 isComp Tryd.underlying74
  rw [hd] at heq
  have nI := noIsFault
  have hU := hasUnwrapFault
  have mU := methodUnwrapFault
  have nE := faultNotErrno
  have nI2 := noIsErrnoO
  have nU2 := noUnwrapErrnoO
  have nV2 := noUnwrapsErrnoO
  go_enter Tryd.func29, Tryd.ntmps29
  go_wp2
  refine wp_loop_rounds 2 ?_
  rw [rounds_succ]
  go_wp2
  rw [rounds_succ]
  go_wp2
  go_ret
  refine ⟨rfl, ?_⟩
  repeat (first | exact Keep.refl _ | with_reducible refine Keep.alloc ?_ _ | with_reducible refine Keep.drew ?_ | with_reducible refine Keep.setCell ?_ (by simp) _)
/-- What fault answers of an Errno. -/
def FauR (part : ByteArray) (at_ n : Int) (w : World) (v : Value) : Prop := (n = 0 ∧ v = .nilIface) ∨ ∃ q, n ≠ 0 ∧ v = faultP q ∧ Box w q #[.string part, .int .i64 at_, .iface 74 (.int .i64 n)]
theorem faultO_zero (part : ByteArray) (at_ : Int) (w : World) :
    Calls Tryd.prog 54 #[.string part, .int .i64 at_, .int .i64 0] w fun e w' => e = .returned .nilIface ∧ Keep w w' := by
  go_enter Tryd.func54, Tryd.ntmps54
  go_wp2_with fail
  refine (is_wrapped _ part at_ 0 _ (Box.new _ _ _)).mono ?_
  rintro e w1 ⟨rfl, hk1⟩
  go_wp2_with fail
  go_ret
  exact ⟨rfl, ((Keep.refl _).alloc _).trans hk1⟩
theorem faultO_not (part : ByteArray) (at_ n : Int) (hn : ¬ n = 0) (w : World) :
    Calls Tryd.prog 54 #[.string part, .int .i64 at_, .int .i64 n] w fun e w' => ∃ q, e = .returned (faultP q) ∧ w.heap.size ≤ q ∧ Box w' q #[.string part, .int .i64 at_, .iface 74 (.int .i64 n)] ∧ Keep w w' := by
  unfold faultP
  go_enter Tryd.func54, Tryd.ntmps54
  go_wp2_with fail
  refine (is_otherO _ part at_ n 0 hn _ (Box.new _ _ _)).mono ?_
  rintro e w1 ⟨rfl, hk1⟩
  have B1 := (Box.new w #[.string part, .int .i64 at_, .iface 74 (.int .i64 n)] 72).keep hk1
  go_wp2_with fail
  go_ret
  exact ⟨_, rfl, Nat.le_refl _, B1, ((Keep.refl _).alloc _).trans hk1⟩
theorem faultO_any (part : ByteArray) (at_ n : Int) (w : World) :
    Calls Tryd.prog 54 #[.string part, .int .i64 at_, .int .i64 n] w fun e w' => ∃ v, e = .returned v ∧ FauR part at_ n w' v ∧ Keep w w' := by
  by_cases hn : n = 0
  · subst hn
    refine (faultO_zero part at_ w).mono ?_
    rintro e w' ⟨rfl, hk⟩
    exact ⟨_, rfl, .inl ⟨rfl, rfl⟩, hk⟩
  · refine (faultO_not part at_ n hn w).mono ?_
    rintro e w' ⟨q, rfl, _, hB, hk⟩
    exact ⟨_, rfl, .inr ⟨q, hn, rfl, hB⟩, hk⟩
/-- What is wrong with a section of so many bytes, of pieces of so many. -/
def secE (n : Nat) (p : Int) : Int := if 16384 < n then 15 else if (n : Int) % p ≠ 0 then 5 else 0
theorem psecO_any (q : Option Addr) (n cap : Nat) (p : Int) (hn : n ≤ 140737488355328) (hp : p = 4 ∨ p = 16) (w : World) :
    Calls Tryd.prog 55 #[.slice q n cap, .int .i64 p] w fun e w' => e = .returned (.int .i64 (secE n p)) ∧ Keep w w' := by
  unfold secE
  rcases hp with rfl | rfl
  all_goals (
    by_cases h1 : 16384 < n
    · rw [if_pos h1]
      have h1i : (16384 : Int) < (n : Int) := by omega
      go_enter Tryd.func55, Tryd.ntmps55
      go_wp2_with fail
      go_ret
      exact ⟨rfl, Keep.refl _⟩
    rw [if_neg h1]
    have h1i : ¬ (16384 : Int) < (n : Int) := by omega)
  · by_cases h2 : (n : Int) % 4 = 0
    · rw [if_neg (by simpa using h2)]
      have h3 : (((n : Int) % 4) != 0) = false := by rw [h2]; rfl
      go_enter Tryd.func55, Tryd.ntmps55
      go_wp2_with fail
      go_ret
      exact ⟨rfl, Keep.refl _⟩
    · rw [if_pos h2]
      have h3 : (((n : Int) % 4) != 0) = true := by simpa using h2
      go_enter Tryd.func55, Tryd.ntmps55
      go_wp2_with fail
      go_ret
      exact ⟨rfl, Keep.refl _⟩
  · by_cases h2 : (n : Int) % 16 = 0
    · rw [if_neg (by simpa using h2)]
      have h3 : (((n : Int) % 16) != 0) = false := by rw [h2]; rfl
      go_enter Tryd.func55, Tryd.ntmps55
      go_wp2_with fail
      go_ret
      exact ⟨rfl, Keep.refl _⟩
    · rw [if_pos h2]
      have h3 : (((n : Int) % 16) != 0) = true := by simpa using h2
      go_enter Tryd.func55, Tryd.ntmps55
      go_wp2_with fail
      go_ret
      exact ⟨rfl, Keep.refl _⟩
end Go.Proofs.YtahnbeoacdnhjaaDoor

/- slices.Equal at bytes, symbols, relocations. -/
namespace Go.Proofs.YtahnbeoacdnhjaaDoor
set_option linter.unusedVariables false
set_option linter.unusedSimpArgs false
open Go.RowKit
/-- Whether two are alike is answered. -/
def EqR {α : Type} (a b : α) (w : World) (e : Ending) (w' : World) : Prop := ∃ x : Bool, e = .returned (.bool x) ∧ (x = true ↔ a = b) ∧ Keep w w'
theorem EqR.yes {α : Type} {a b : α} {w w' : World} (h : a = b) (k : Keep w w') : EqR a b w (.returned (.bool true)) w' := ⟨true, rfl, ⟨fun _ => h, fun _ => rfl⟩, k⟩
theorem EqR.no {α : Type} {a b : α} {w w' : World} (h : a ≠ b) (k : Keep w w') : EqR a b w (.returned (.bool false)) w' := ⟨false, rfl, ⟨(fun x => nomatch x), (fun x => absurd x h)⟩, k⟩
/-- Things of m cells each, where a slice says them. -/
theorem SlAt.rowsAt {α : Type} {f : α → List Value} {m : Nat} (hf : ∀ x, (f x).length = m) (hm : 0 < m) {w : World} {v : Value} {l : List α} (h : SlAt w v l.length (l.flatMap f)) :
    ∃ p cap, v = .slice p l.length cap ∧ l.length ≤ cap ∧ (l = [] ∨ ∃ b off, p = some ⟨b, off, none⟩ ∧ b < w.heap.size ∧ ∀ (i : Nat) (t : α), l[i]? = some t → ∀ j, j < m → w.cell? ⟨b, off + (i * m + j), none⟩ = (f t)[j]?) := by
  obtain ⟨p, cap, h1, h2, _, h3⟩ := h
  refine ⟨p, cap, h1, h2, ?_⟩
  by_cases h0 : l = []
  · exact .inl h0
  · rcases h3 with h3 | ⟨b, off, h3, h4, h5⟩
    · exfalso
      have := rows_length hf l
      rw [h3] at this
      simp only [List.length_nil] at this
      have hl : 0 < l.length := List.length_pos_iff.2 h0
      have := Nat.mul_pos hl hm
      omega
    · refine .inr ⟨b, off, h3, h4, fun i t ht j hj => ?_⟩
      have e := rows_row hf l i j hj t ht
      have hjl : j < (f t).length := by rw [hf]; exact hj
      rw [List.getElem?_eq_getElem hjl] at e ⊢
      exact h5 _ _ e
def sameS (s t : SymV) : Bool := (s.name.toList == t.name.toList) && ((s.data == t.data) && ((s.off == t.off) && (s.exp == t.exp)))
theorem sameS_iff (s t : SymV) : sameS s t = true ↔ s = t := by
  obtain ⟨a, b, c, d⟩ := s
  obtain ⟨a1, b1, c1, d1⟩ := t
  unfold sameS
  simp [ostr_beq]
def sameR (s t : RelV) : Bool := (s.kind == t.kind) && ((s.off == t.off) && ((s.comp.toList == t.comp.toList) && ((s.name.toList == t.name.toList) && (s.perm == t.perm))))
theorem sameR_iff (s t : RelV) : sameR s t = true ↔ s = t := by
  obtain ⟨a, b, c, d, e⟩ := s
  obtain ⟨a1, b1, c1, d1, e1⟩ := t
  unfold sameR
  simp [ostr_beq]
theorem eqin_sym (s t : SymV) (w : World) : (Op.equalIn 10000 47 (.agg #[.string s.name, .bool s.data, .int .u32 s.off, .bool s.exp]) (.agg #[.string t.name, .bool t.data, .int .u32 t.off, .bool t.exp])).run Tryd.prog w = .ok (sameS s t) w := by
  unfold sameS
  cases h0 : (s.name.toList == t.name.toList)
  · go_simp
  cases h1 : (s.data == t.data)
  · go_simp
  cases h2 : (s.off == t.off)
  · go_simp
  cases h3 : (s.exp == t.exp)
  · go_simp
  go_simp
theorem eqin_rel (s t : RelV) (w : World) : (Op.equalIn 10000 49 (.agg #[.int .i64 s.kind, .int .u32 s.off, .string s.comp, .string s.name, .int .u16 s.perm]) (.agg #[.int .i64 t.kind, .int .u32 t.off, .string t.comp, .string t.name, .int .u16 t.perm])).run Tryd.prog w = .ok (sameR s t) w := by
  unfold sameR
  cases h0 : (s.kind == t.kind)
  · go_simp
  cases h1 : (s.off == t.off)
  · go_simp
  cases h2 : (s.comp.toList == t.comp.toList)
  · go_simp
  cases h3 : (s.name.toList == t.name.toList)
  · go_simp
  cases h4 : (s.perm == t.perm)
  · go_simp
  go_simp
/-- A byte's cell. -/
def byteRow (x : Nat) : List Value := [byteV x]
theorem byteRow_length (x : Nat) : (byteRow x).length = 1 := rfl
theorem map_row (l : List Nat) : l.map byteV = l.flatMap byteRow := by
  induction l with
  | nil => rfl
  | cons x l ih => rw [List.map_cons, List.flatMap_cons, ih]; rfl
theorem list_eq_of {α : Type} {a b : List α} (hl : a.length = b.length) (h : ∀ (j : Nat) (x y : α), a[j]? = some x → b[j]? = some y → x = y) : a = b :=
  List.ext_getElem hl fun j h1 h2 => h j _ _ (List.getElem?_eq_getElem h1) (List.getElem?_eq_getElem h2)
set_option maxHeartbeats 4000000 in
set_option maxRecDepth 100000 in
theorem pequal_sym (l1 l2 : List SymV) (v1 v2 : Value) (w : World) (h1 : SlAt w v1 l1.length (l1.flatMap symRow)) (h2 : SlAt w v2 l2.length (l2.flatMap symRow)) (f1 : l1.length ≤ 1000000) (f2 : l2.length ≤ 1000000) :
    Calls Tryd.prog 26 #[v1, v2] w (EqR l1 l2 w) := by
  obtain ⟨p1, c1, rfl, hc1, x1⟩ := SlAt.rowsAt symRow_length (by decide) h1
  obtain ⟨p2, c2, rfl, hc2, x2⟩ := SlAt.rowsAt symRow_length (by decide) h2
  clear h1 h2 hc1 hc2
  have X1 := Lib.hid x1
  have X2 := Lib.hid x2
  clear x1 x2
  obtain ⟨n, hn⟩ : ∃ n, n = l1.length := ⟨_, rfl⟩
  rw [← hn] at f1 ⊢
  have HN := Lib.hid hn
  by_cases hnm : n = l2.length
  · rw [← hnm]
    have HM := Lib.hid hnm
    clear f2 hn hnm
    go_enter Tryd.func26, Tryd.ntmps26
    go_wp2_with fail
    go_loopw [5, 13] (fun _ i wr => ∃ k : Nat, k ≤ n ∧ i = .int .i64 (k : Int) ∧ Keep w wr ∧ ∀ (j : Nat) (x y : SymV), j < k → l1[j]? = some x → l2[j]? = some y → x = y) (fun _ i _ => n - (intOf i).toNat)
    case atStart => exact ⟨0, Nat.zero_le _, rfl, Keep.refl _, fun j _ _ hj => absurd hj (Nat.not_lt_zero _)⟩
    case round =>
      obtain ⟨k, hk, rfl, hK, heq⟩ := hrel
      have HQ := Lib.hid heq
      have HK := Lib.hid hK
      clear heq hK
      have k0 : (0 : Int) ≤ (k : Int) := Int.natCast_nonneg _
      by_cases hlt : k < n
      · have hkn : (k : Int) < (n : Int) := by omega
        obtain ⟨x, hx⟩ : ∃ x, l1[k]? = some x := ⟨_, List.getElem?_eq_getElem (by rw [← HN.out]; exact hlt)⟩
        obtain ⟨y, hy⟩ : ∃ y, l2[k]? = some y := ⟨_, List.getElem?_eq_getElem (by rw [← HM.out]; exact hlt)⟩
        rcases X1.out with hnil | ⟨b1, o1, rfl, hb1, y1⟩
        · rw [hnil] at hx; simp at hx
        rcases X2.out with hnil | ⟨b2, o2, rfl, hb2, y2⟩
        · rw [hnil] at hy; simp at hy
        have qx0 : Hid (wr.cell? ⟨b1, o1 + k * 4, none⟩ = some (.string x.name)) := Lib.hid (by have := y1 k x hx 0 (by decide); rw [Nat.add_zero] at this; exact HK.out.cellOf this)
        have qx1 : Hid (wr.cell? ⟨b1, o1 + k * 4 + 1, none⟩ = some (.bool x.data)) := Lib.hid (by have := y1 k x hx 1 (by decide); rw [← Nat.add_assoc] at this; exact HK.out.cellOf this)
        have qx2 : Hid (wr.cell? ⟨b1, o1 + k * 4 + 2, none⟩ = some (.int .u32 x.off)) := Lib.hid (by have := y1 k x hx 2 (by decide); rw [← Nat.add_assoc] at this; exact HK.out.cellOf this)
        have qx3 : Hid (wr.cell? ⟨b1, o1 + k * 4 + 3, none⟩ = some (.bool x.exp)) := Lib.hid (by have := y1 k x hx 3 (by decide); rw [← Nat.add_assoc] at this; exact HK.out.cellOf this)
        have qy0 : Hid (wr.cell? ⟨b2, o2 + k * 4, none⟩ = some (.string y.name)) := Lib.hid (by have := y2 k y hy 0 (by decide); rw [Nat.add_zero] at this; exact HK.out.cellOf this)
        have qy1 : Hid (wr.cell? ⟨b2, o2 + k * 4 + 1, none⟩ = some (.bool y.data)) := Lib.hid (by have := y2 k y hy 1 (by decide); rw [← Nat.add_assoc] at this; exact HK.out.cellOf this)
        have qy2 : Hid (wr.cell? ⟨b2, o2 + k * 4 + 2, none⟩ = some (.int .u32 y.off)) := Lib.hid (by have := y2 k y hy 2 (by decide); rw [← Nat.add_assoc] at this; exact HK.out.cellOf this)
        have qy3 : Hid (wr.cell? ⟨b2, o2 + k * 4 + 3, none⟩ = some (.bool y.exp)) := Lib.hid (by have := y2 k y hy 3 (by decide); rw [← Nat.add_assoc] at this; exact HK.out.cellOf this)
        have HX := Lib.hid hx
        have HY := Lib.hid hy
        have EQ := fun W => eqin_sym x y W
        clear hx hy y1 y2
        rcases Bool.eq_false_or_eq_true (sameS x y) with d | d
        · have hxy := Lib.hid ((sameS_iff x y).1 d)
          rw [d] at EQ
          go_wp2_with fail
          refine region_grows (Keep wr) (by kernel_rfl) (by kernel_rfl) (Keep.refl _).drew ?_
          repeat (first
            | (apply text_pass (by rfl); go_simp)
            | (apply text_step (by rfl)
               · intro W hW
                 have rqx0 := hW.cellOf qx0.out
                 have rqx1 := hW.cellOf qx1.out
                 have rqx2 := hW.cellOf qx2.out
                 have rqx3 := hW.cellOf qx3.out
                 have rqy0 := hW.cellOf qy0.out
                 have rqy1 := hW.cellOf qy1.out
                 have rqy2 := hW.cellOf qy2.out
                 have rqy3 := hW.cellOf qy3.out
                 go_simp
                 exact ⟨rfl, hW⟩
               go_simp))
          apply text_end
          intro W hW
          have HW := Lib.hid (HK.out.trans hW)
          clear hW
          go_wp2_with fail
          refine ⟨⟨k + 1, hlt, by simp, HW.out, fun j a b hj ha hb => ?_⟩, by simp [intOf]; omega⟩
          by_cases e : j = k
          · subst e
            rw [HX.out] at ha
            rw [HY.out] at hb
            cases ha
            cases hb
            exact hxy.out
          · exact HQ.out j a b (by omega) ha hb
        · have hne : Hid (l1 ≠ l2) := Lib.hid (fun h => by
            have h1 := HX.out
            rw [h, HY.out] at h1
            cases h1
            rw [(sameS_iff _ _).2 rfl] at d
            cases d)
          rw [d] at EQ
          go_wp2_with fail
          refine region_grows (Keep wr) (by kernel_rfl) (by kernel_rfl) (Keep.refl _).drew ?_
          repeat (first
            | (apply text_pass (by rfl); go_simp)
            | (apply text_step (by rfl)
               · intro W hW
                 have rqx0 := hW.cellOf qx0.out
                 have rqx1 := hW.cellOf qx1.out
                 have rqx2 := hW.cellOf qx2.out
                 have rqx3 := hW.cellOf qx3.out
                 have rqy0 := hW.cellOf qy0.out
                 have rqy1 := hW.cellOf qy1.out
                 have rqy2 := hW.cellOf qy2.out
                 have rqy3 := hW.cellOf qy3.out
                 go_simp
                 exact ⟨rfl, hW⟩
               go_simp))
          apply text_end
          intro W hW
          have HW := Lib.hid (HK.out.trans hW)
          clear hW
          go_wp2_with fail
          go_ret
          exact EqR.no hne.out HW.out
      · obtain rfl : k = n := by omega
        have he : Hid (l1 = l2) := Lib.hid (list_eq_of (by rw [← HN.out, ← HM.out]) (fun j x y h1 h2 => HQ.out j x y (by rw [HN.out]; exact (List.getElem?_eq_some_iff.1 h1).1) h1 h2))
        go_wp2_with fail
        go_ret
        exact EqR.yes he.out HK.out
  · have hnm' : ¬ (n : Int) = (l2.length : Int) := by omega
    have hne : Hid (l1 ≠ l2) := Lib.hid (fun h => hnm (by rw [HN.out, h]))
    obtain ⟨l, hl⟩ : ∃ l, l = l2.length := ⟨_, rfl⟩
    rw [← hl] at hnm' f2 ⊢
    clear hn hnm hl HN X1 X2
    go_enter Tryd.func26, Tryd.ntmps26
    go_wp2_with fail
    go_ret
    exact EqR.no hne.out (Keep.refl _)
set_option maxHeartbeats 4000000 in
set_option maxRecDepth 100000 in
theorem pequal_rel (l1 l2 : List RelV) (v1 v2 : Value) (w : World) (h1 : SlAt w v1 l1.length (l1.flatMap relRow)) (h2 : SlAt w v2 l2.length (l2.flatMap relRow)) (f1 : l1.length ≤ 1000000) (f2 : l2.length ≤ 1000000) :
    Calls Tryd.prog 27 #[v1, v2] w (EqR l1 l2 w) := by
  obtain ⟨p1, c1, rfl, hc1, x1⟩ := SlAt.rowsAt relRow_length (by decide) h1
  obtain ⟨p2, c2, rfl, hc2, x2⟩ := SlAt.rowsAt relRow_length (by decide) h2
  clear h1 h2 hc1 hc2
  have X1 := Lib.hid x1
  have X2 := Lib.hid x2
  clear x1 x2
  obtain ⟨n, hn⟩ : ∃ n, n = l1.length := ⟨_, rfl⟩
  rw [← hn] at f1 ⊢
  have HN := Lib.hid hn
  by_cases hnm : n = l2.length
  · rw [← hnm]
    have HM := Lib.hid hnm
    clear f2 hn hnm
    go_enter Tryd.func27, Tryd.ntmps27
    go_wp2_with fail
    go_loopw [5, 13] (fun _ i wr => ∃ k : Nat, k ≤ n ∧ i = .int .i64 (k : Int) ∧ Keep w wr ∧ ∀ (j : Nat) (x y : RelV), j < k → l1[j]? = some x → l2[j]? = some y → x = y) (fun _ i _ => n - (intOf i).toNat)
    case atStart => exact ⟨0, Nat.zero_le _, rfl, Keep.refl _, fun j _ _ hj => absurd hj (Nat.not_lt_zero _)⟩
    case round =>
      obtain ⟨k, hk, rfl, hK, heq⟩ := hrel
      have HQ := Lib.hid heq
      have HK := Lib.hid hK
      clear heq hK
      have k0 : (0 : Int) ≤ (k : Int) := Int.natCast_nonneg _
      by_cases hlt : k < n
      · have hkn : (k : Int) < (n : Int) := by omega
        obtain ⟨x, hx⟩ : ∃ x, l1[k]? = some x := ⟨_, List.getElem?_eq_getElem (by rw [← HN.out]; exact hlt)⟩
        obtain ⟨y, hy⟩ : ∃ y, l2[k]? = some y := ⟨_, List.getElem?_eq_getElem (by rw [← HM.out]; exact hlt)⟩
        rcases X1.out with hnil | ⟨b1, o1, rfl, hb1, y1⟩
        · rw [hnil] at hx; simp at hx
        rcases X2.out with hnil | ⟨b2, o2, rfl, hb2, y2⟩
        · rw [hnil] at hy; simp at hy
        have qx0 : Hid (wr.cell? ⟨b1, o1 + k * 5, none⟩ = some (.int .i64 x.kind)) := Lib.hid (by have := y1 k x hx 0 (by decide); rw [Nat.add_zero] at this; exact HK.out.cellOf this)
        have qx1 : Hid (wr.cell? ⟨b1, o1 + k * 5 + 1, none⟩ = some (.int .u32 x.off)) := Lib.hid (by have := y1 k x hx 1 (by decide); rw [← Nat.add_assoc] at this; exact HK.out.cellOf this)
        have qx2 : Hid (wr.cell? ⟨b1, o1 + k * 5 + 2, none⟩ = some (.string x.comp)) := Lib.hid (by have := y1 k x hx 2 (by decide); rw [← Nat.add_assoc] at this; exact HK.out.cellOf this)
        have qx3 : Hid (wr.cell? ⟨b1, o1 + k * 5 + 3, none⟩ = some (.string x.name)) := Lib.hid (by have := y1 k x hx 3 (by decide); rw [← Nat.add_assoc] at this; exact HK.out.cellOf this)
        have qx4 : Hid (wr.cell? ⟨b1, o1 + k * 5 + 4, none⟩ = some (.int .u16 x.perm)) := Lib.hid (by have := y1 k x hx 4 (by decide); rw [← Nat.add_assoc] at this; exact HK.out.cellOf this)
        have qy0 : Hid (wr.cell? ⟨b2, o2 + k * 5, none⟩ = some (.int .i64 y.kind)) := Lib.hid (by have := y2 k y hy 0 (by decide); rw [Nat.add_zero] at this; exact HK.out.cellOf this)
        have qy1 : Hid (wr.cell? ⟨b2, o2 + k * 5 + 1, none⟩ = some (.int .u32 y.off)) := Lib.hid (by have := y2 k y hy 1 (by decide); rw [← Nat.add_assoc] at this; exact HK.out.cellOf this)
        have qy2 : Hid (wr.cell? ⟨b2, o2 + k * 5 + 2, none⟩ = some (.string y.comp)) := Lib.hid (by have := y2 k y hy 2 (by decide); rw [← Nat.add_assoc] at this; exact HK.out.cellOf this)
        have qy3 : Hid (wr.cell? ⟨b2, o2 + k * 5 + 3, none⟩ = some (.string y.name)) := Lib.hid (by have := y2 k y hy 3 (by decide); rw [← Nat.add_assoc] at this; exact HK.out.cellOf this)
        have qy4 : Hid (wr.cell? ⟨b2, o2 + k * 5 + 4, none⟩ = some (.int .u16 y.perm)) := Lib.hid (by have := y2 k y hy 4 (by decide); rw [← Nat.add_assoc] at this; exact HK.out.cellOf this)
        have HX := Lib.hid hx
        have HY := Lib.hid hy
        have EQ := fun W => eqin_rel x y W
        clear hx hy y1 y2
        rcases Bool.eq_false_or_eq_true (sameR x y) with d | d
        · have hxy := Lib.hid ((sameR_iff x y).1 d)
          rw [d] at EQ
          go_wp2_with fail
          refine region_grows (Keep wr) (by kernel_rfl) (by kernel_rfl) (Keep.refl _).drew ?_
          repeat (first
            | (apply text_pass (by rfl); go_simp)
            | (apply text_step (by rfl)
               · intro W hW
                 have rqx0 := hW.cellOf qx0.out
                 have rqx1 := hW.cellOf qx1.out
                 have rqx2 := hW.cellOf qx2.out
                 have rqx3 := hW.cellOf qx3.out
                 have rqx4 := hW.cellOf qx4.out
                 have rqy0 := hW.cellOf qy0.out
                 have rqy1 := hW.cellOf qy1.out
                 have rqy2 := hW.cellOf qy2.out
                 have rqy3 := hW.cellOf qy3.out
                 have rqy4 := hW.cellOf qy4.out
                 go_simp
                 exact ⟨rfl, hW⟩
               go_simp))
          apply text_end
          intro W hW
          have HW := Lib.hid (HK.out.trans hW)
          clear hW
          go_wp2_with fail
          refine ⟨⟨k + 1, hlt, by simp, HW.out, fun j a b hj ha hb => ?_⟩, by simp [intOf]; omega⟩
          by_cases e : j = k
          · subst e
            rw [HX.out] at ha
            rw [HY.out] at hb
            cases ha
            cases hb
            exact hxy.out
          · exact HQ.out j a b (by omega) ha hb
        · have hne : Hid (l1 ≠ l2) := Lib.hid (fun h => by
            have h1 := HX.out
            rw [h, HY.out] at h1
            cases h1
            rw [(sameR_iff _ _).2 rfl] at d
            cases d)
          rw [d] at EQ
          go_wp2_with fail
          refine region_grows (Keep wr) (by kernel_rfl) (by kernel_rfl) (Keep.refl _).drew ?_
          repeat (first
            | (apply text_pass (by rfl); go_simp)
            | (apply text_step (by rfl)
               · intro W hW
                 have rqx0 := hW.cellOf qx0.out
                 have rqx1 := hW.cellOf qx1.out
                 have rqx2 := hW.cellOf qx2.out
                 have rqx3 := hW.cellOf qx3.out
                 have rqx4 := hW.cellOf qx4.out
                 have rqy0 := hW.cellOf qy0.out
                 have rqy1 := hW.cellOf qy1.out
                 have rqy2 := hW.cellOf qy2.out
                 have rqy3 := hW.cellOf qy3.out
                 have rqy4 := hW.cellOf qy4.out
                 go_simp
                 exact ⟨rfl, hW⟩
               go_simp))
          apply text_end
          intro W hW
          have HW := Lib.hid (HK.out.trans hW)
          clear hW
          go_wp2_with fail
          go_ret
          exact EqR.no hne.out HW.out
      · obtain rfl : k = n := by omega
        have he : Hid (l1 = l2) := Lib.hid (list_eq_of (by rw [← HN.out, ← HM.out]) (fun j x y h1 h2 => HQ.out j x y (by rw [HN.out]; exact (List.getElem?_eq_some_iff.1 h1).1) h1 h2))
        go_wp2_with fail
        go_ret
        exact EqR.yes he.out HK.out
  · have hnm' : ¬ (n : Int) = (l2.length : Int) := by omega
    have hne : Hid (l1 ≠ l2) := Lib.hid (fun h => hnm (by rw [HN.out, h]))
    obtain ⟨l, hl⟩ : ∃ l, l = l2.length := ⟨_, rfl⟩
    rw [← hl] at hnm' f2 ⊢
    clear hn hnm hl HN X1 X2
    go_enter Tryd.func27, Tryd.ntmps27
    go_wp2_with fail
    go_ret
    exact EqR.no hne.out (Keep.refl _)
theorem u8_iff (x y : Nat) : ((x : Int) == (y : Int)) = true ↔ x = y := by rw [beq_iff_eq]; omega
set_option maxHeartbeats 4000000 in
set_option maxRecDepth 100000 in
theorem pequal_u8 (l1 l2 : List Nat) (v1 v2 : Value) (w : World) (h1 : SlAt w v1 l1.length (l1.flatMap byteRow)) (h2 : SlAt w v2 l2.length (l2.flatMap byteRow)) (f1 : l1.length ≤ 1000000) (f2 : l2.length ≤ 1000000) :
    Calls Tryd.prog 25 #[v1, v2] w (EqR l1 l2 w) := by
  obtain ⟨p1, c1, rfl, hc1, x1⟩ := SlAt.rowsAt byteRow_length (by decide) h1
  obtain ⟨p2, c2, rfl, hc2, x2⟩ := SlAt.rowsAt byteRow_length (by decide) h2
  clear h1 h2 hc1 hc2
  have X1 := Lib.hid x1
  have X2 := Lib.hid x2
  clear x1 x2
  obtain ⟨n, hn⟩ : ∃ n, n = l1.length := ⟨_, rfl⟩
  rw [← hn] at f1 ⊢
  have HN := Lib.hid hn
  by_cases hnm : n = l2.length
  · rw [← hnm]
    have HM := Lib.hid hnm
    clear f2 hn hnm
    go_enter Tryd.func25, Tryd.ntmps25
    go_wp2_with fail
    go_loopw [5, 13] (fun _ i wr => ∃ k : Nat, k ≤ n ∧ i = .int .i64 (k : Int) ∧ Keep w wr ∧ ∀ (j : Nat) (x y : Nat), j < k → l1[j]? = some x → l2[j]? = some y → x = y) (fun _ i _ => n - (intOf i).toNat)
    case atStart => exact ⟨0, Nat.zero_le _, rfl, Keep.refl _, fun j _ _ hj => absurd hj (Nat.not_lt_zero _)⟩
    case round =>
      obtain ⟨k, hk, rfl, hK, heq⟩ := hrel
      have HQ := Lib.hid heq
      have HK := Lib.hid hK
      clear heq hK
      have k0 : (0 : Int) ≤ (k : Int) := Int.natCast_nonneg _
      by_cases hlt : k < n
      · have hkn : (k : Int) < (n : Int) := by omega
        obtain ⟨x, hx⟩ : ∃ x, l1[k]? = some x := ⟨_, List.getElem?_eq_getElem (by rw [← HN.out]; exact hlt)⟩
        obtain ⟨y, hy⟩ : ∃ y, l2[k]? = some y := ⟨_, List.getElem?_eq_getElem (by rw [← HM.out]; exact hlt)⟩
        rcases X1.out with hnil | ⟨b1, o1, rfl, hb1, y1⟩
        · rw [hnil] at hx; simp at hx
        rcases X2.out with hnil | ⟨b2, o2, rfl, hb2, y2⟩
        · rw [hnil] at hy; simp at hy
        have qx0 : Hid (wr.cell? ⟨b1, o1 + k, none⟩ = some (.int .u8 (x : Int))) := Lib.hid (by have := y1 k x hx 0 (by decide); rw [Nat.mul_one, Nat.add_zero] at this; exact HK.out.cellOf this)
        have qy0 : Hid (wr.cell? ⟨b2, o2 + k, none⟩ = some (.int .u8 (y : Int))) := Lib.hid (by have := y2 k y hy 0 (by decide); rw [Nat.mul_one, Nat.add_zero] at this; exact HK.out.cellOf this)
        have HX := Lib.hid hx
        have HY := Lib.hid hy
        clear hx hy y1 y2
        rcases Bool.eq_false_or_eq_true ((x : Int) == (y : Int)) with d | d
        · have hxy := Lib.hid ((u8_iff x y).1 d)
          have d2 : ((x : Int) != (y : Int)) = false := by rw [bne, d]; rfl
          go_wp2_with fail
          refine region_grows (Keep wr) (by kernel_rfl) (by kernel_rfl) (Keep.refl _).drew ?_
          repeat (first
            | (apply text_pass (by rfl); go_simp)
            | (apply text_step (by rfl)
               · intro W hW
                 have rqx0 := hW.cellOf qx0.out
                 have rqy0 := hW.cellOf qy0.out
                 go_simp
                 exact ⟨rfl, hW⟩
               go_simp))
          apply text_end
          intro W hW
          have HW := Lib.hid (HK.out.trans hW)
          clear hW
          go_wp2_with fail
          refine ⟨⟨k + 1, hlt, by simp, HW.out, fun j a b hj ha hb => ?_⟩, by simp [intOf]; omega⟩
          by_cases e : j = k
          · subst e
            rw [HX.out] at ha
            rw [HY.out] at hb
            cases ha
            cases hb
            exact hxy.out
          · exact HQ.out j a b (by omega) ha hb
        · have hne : Hid (l1 ≠ l2) := Lib.hid (fun h => by
            have h1 := HX.out
            rw [h, HY.out] at h1
            cases h1
            rw [(u8_iff _ _).2 rfl] at d
            cases d)
          have d2 : ((x : Int) != (y : Int)) = true := by rw [bne, d]; rfl
          go_wp2_with fail
          refine region_grows (Keep wr) (by kernel_rfl) (by kernel_rfl) (Keep.refl _).drew ?_
          repeat (first
            | (apply text_pass (by rfl); go_simp)
            | (apply text_step (by rfl)
               · intro W hW
                 have rqx0 := hW.cellOf qx0.out
                 have rqy0 := hW.cellOf qy0.out
                 go_simp
                 exact ⟨rfl, hW⟩
               go_simp))
          apply text_end
          intro W hW
          have HW := Lib.hid (HK.out.trans hW)
          clear hW
          go_wp2_with fail
          go_ret
          exact EqR.no hne.out HW.out
      · obtain rfl : k = n := by omega
        have he : Hid (l1 = l2) := Lib.hid (list_eq_of (by rw [← HN.out, ← HM.out]) (fun j x y h1 h2 => HQ.out j x y (by rw [HN.out]; exact (List.getElem?_eq_some_iff.1 h1).1) h1 h2))
        go_wp2_with fail
        go_ret
        exact EqR.yes he.out HK.out
  · have hnm' : ¬ (n : Int) = (l2.length : Int) := by omega
    have hne : Hid (l1 ≠ l2) := Lib.hid (fun h => hnm (by rw [HN.out, h]))
    obtain ⟨l, hl⟩ : ∃ l, l = l2.length := ⟨_, rfl⟩
    rw [← hl] at hnm' f2 ⊢
    clear hn hnm hl HN X1 X2
    go_enter Tryd.func25, Tryd.ntmps25
    go_wp2_with fail
    go_ret
    exact EqR.no hne.out (Keep.refl _)
end Go.Proofs.YtahnbeoacdnhjaaDoor

/- The program's Same. -/
namespace Go.Proofs.YtahnbeoacdnhjaaDoor
set_option linter.unusedVariables false
set_option linter.unusedSimpArgs false
open Go.RowKit
theorem ObjV.same_iff (o p : ObjV) : o = p ↔ o.name = p.name ∧ o.code = p.code ∧ o.data = p.data ∧ o.syms = p.syms ∧ o.rels = p.rels := by
  obtain ⟨a, b, c, d, e⟩ := o
  obtain ⟨a1, b1, c1, d1, e1⟩ := p
  simp
set_option maxHeartbeats 4000000 in
set_option maxRecDepth 100000 in
theorem oSame : PObjSame := by
  intro o p vc vd vs vr uc ud us ur w h h2 _ _ f f2
  have CC := fun W (k : Keep w W) => pequal_u8 o.code p.code vc uc W (by rw [← map_row]; exact h.code.keep k) (by rw [← map_row]; exact h2.code.keep k) (by have := f.code; omega) (by have := f2.code; omega)
  have CD := fun W (k : Keep w W) => pequal_u8 o.data p.data vd ud W (by rw [← map_row]; exact h.data.keep k) (by rw [← map_row]; exact h2.data.keep k) (by have := f.data; omega) (by have := f2.data; omega)
  have CS := fun W (k : Keep w W) => pequal_sym o.syms p.syms vs us W (h.syms.keep k) (h2.syms.keep k) (by have := f.syms; omega) (by have := f2.syms; omega)
  have CR := fun W (k : Keep w W) => pequal_rel o.rels p.rels vr ur W (h.rels.keep k) (h2.rels.keep k) (by have := f.rels; omega) (by have := f2.rels; omega)
  have HC := Lib.hid CC
  have HD := Lib.hid CD
  have HS := Lib.hid CS
  have HR := Lib.hid CR
  unfold objVal
  clear CC CD CS CR f f2
  obtain ⟨pc, cc, rfl, hcc, _, _⟩ := h.code
  obtain ⟨pd, cd, rfl, hcd, _, _⟩ := h.data
  obtain ⟨ps, cs, rfl, hcs, _, _⟩ := h.syms
  obtain ⟨pr, cr, rfl, hcr, _, _⟩ := h.rels
  obtain ⟨qc, dc, rfl, hdc, _, _⟩ := h2.code
  obtain ⟨qd, dd, rfl, hdd, _, _⟩ := h2.data
  obtain ⟨qs, ds, rfl, hds, _, _⟩ := h2.syms
  obtain ⟨qr, dr, rfl, hdr, _, _⟩ := h2.rels
  clear h h2 hcc hcd hcs hcr hdc hdd hds hdr
  obtain ⟨W1, hW1⟩ : ∃ W1, W1 = (w.alloc (.cells #[.string o.name, .slice pc o.code.length cc, .slice pd o.data.length cd, .slice ps o.syms.length cs, .slice pr o.rels.length cr] 26)).alloc (.cells #[.string p.name, .slice qc p.code.length dc, .slice qd p.data.length dd, .slice qs p.syms.length ds, .slice qr p.rels.length dr] 26) := ⟨_, rfl⟩
  have K1 : Hid (Keep w W1) := Lib.hid (by rw [hW1]; exact ((Keep.refl _).alloc _).alloc _)
  have BA : Hid (Box W1 w.heap.size #[.string o.name, .slice pc o.code.length cc, .slice pd o.data.length cd, .slice ps o.syms.length cs, .slice pr o.rels.length cr]) := Lib.hid (by rw [hW1]; exact (Box.new _ _ _).alloc _)
  have BB : Hid (Box W1 (w.heap.size + 1) #[.string p.name, .slice qc p.code.length dc, .slice qd p.data.length dd, .slice qs p.syms.length ds, .slice qr p.rels.length dr]) := Lib.hid (by rw [hW1]; exact Box.new1 _ _ _ _)
  have DN : Hid ((o.name.toList == p.name.toList) = true ↔ o.name = p.name) := Lib.hid (by rw [ostr_beq]; exact decide_eq_true_iff)
  have c0 := BA.out.cells
  have c1 := BB.out.cells
  rcases Bool.eq_false_or_eq_true (o.name.toList == p.name.toList) with d | d
  rotate_left
  · have hne : Hid (o ≠ p) := Lib.hid (fun e => by rw [e, ostr_beq] at d; simp at d)
    go_enter Tryd.func11, Tryd.ntmps11
    go_wp2_with fail
    rw [← hW1]
    go_wp2_with fail
    go_ret
    exact EqR.no hne.out K1.out
  · have N0 : Hid (o.name = p.name) := Lib.hid (DN.out.1 d)
    go_enter Tryd.func11, Tryd.ntmps11
    go_wp2_with fail
    rw [← hW1]
    go_wp2_with fail
    refine (HC.out _ K1.out).mono ?_
    rintro e w2 ⟨b1, rfl, hb1, hk1⟩
    have K2 := Lib.hid (K1.out.trans hk1)
    have HB1 := Lib.hid hb1
    have BA1 := Lib.hid (BA.out.keep hk1)
    have BB1 := Lib.hid (BB.out.keep hk1)
    clear hk1 hb1 c0 c1
    have c0 := BA1.out.cells
    have c1 := BB1.out.cells
    cases b1
    · go_wp2_with fail
      go_ret
      exact EqR.no (fun e => by have h := HB1.out.2 (congrArg ObjV.code e); cases h) K2.out
    go_wp2_with fail
    refine (HD.out _ K2.out).mono ?_
    rintro e w3 ⟨b2, rfl, hb2, hk2⟩
    have K3 := Lib.hid (K2.out.trans hk2)
    have HB2 := Lib.hid hb2
    have BA2 := Lib.hid (BA1.out.keep hk2)
    have BB2 := Lib.hid (BB1.out.keep hk2)
    clear hk2 hb2 c0 c1
    have c0 := BA2.out.cells
    have c1 := BB2.out.cells
    cases b2
    · go_wp2_with fail
      go_ret
      exact EqR.no (fun e => by have h := HB2.out.2 (congrArg ObjV.data e); cases h) K3.out
    go_wp2_with fail
    refine (HS.out _ K3.out).mono ?_
    rintro e w4 ⟨b3, rfl, hb3, hk3⟩
    have K4 := Lib.hid (K3.out.trans hk3)
    have HB3 := Lib.hid hb3
    have BA3 := Lib.hid (BA2.out.keep hk3)
    have BB3 := Lib.hid (BB2.out.keep hk3)
    clear hk3 hb3 c0 c1
    have c0 := BA3.out.cells
    have c1 := BB3.out.cells
    cases b3
    · go_wp2_with fail
      go_ret
      exact EqR.no (fun e => by have h := HB3.out.2 (congrArg ObjV.syms e); cases h) K4.out
    go_wp2_with fail
    refine (HR.out _ K4.out).mono ?_
    rintro e w5 ⟨b4, rfl, hb4, hk4⟩
    have K5 := Lib.hid (K4.out.trans hk4)
    have HB4 := Lib.hid hb4
    have BA4 := Lib.hid (BA3.out.keep hk4)
    have BB4 := Lib.hid (BB3.out.keep hk4)
    clear hk4 hb4 c0 c1
    have c0 := BA4.out.cells
    have c1 := BB4.out.cells
    cases b4
    · go_wp2_with fail
      go_ret
      exact EqR.no (fun e => by have h := HB4.out.2 (congrArg ObjV.rels e); cases h) K5.out
    go_wp2_with fail
    go_ret
    exact EqR.yes ((ObjV.same_iff o p).2 ⟨N0.out, by simpa using HB1.out, by simpa using HB2.out, by simpa using HB3.out, by simpa using HB4.out⟩) K5.out
end Go.Proofs.YtahnbeoacdnhjaaDoor
