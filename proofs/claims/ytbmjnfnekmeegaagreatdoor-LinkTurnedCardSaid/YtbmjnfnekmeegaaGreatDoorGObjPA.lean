/- ObjC, ObjMid, ObjPName, ObjPFind, ObjPFau: What the program's obj is to answer; nothing that is wrong has the error 0. Pre: what is laid ahead of a call (any predicate that lasts and holds errors.errorType). -/
import Derived.Test.YtbmjnfnekmeegaaGreatDoorGRows
import Derived.Test.YtbmjnfnekmeegaaGreatDoorGTell
import Derived.Test.YtbmjnfnekmeegaaGreatDoorObjNz
import Derived.Test.YtbmjnfnekmeegaaGreatDoorGObjF
import Derived.Test.YtbmjnfnekmeegaaGreatDoorGRdrC
import Derived.Test.YtbmjnfnekmeegaaGreatDoorGErr
/- What the program's obj is to answer; nothing that is wrong has the error 0. Pre: what is laid ahead of a call (any predicate that lasts and holds errors.errorType). -/
namespace Go.Proofs.YtbmjnfnekmeegaaGreatDoor
set_option linter.unusedVariables false
set_option linter.unusedSimpArgs false
open Go.RowKit
def PObjName : Prop := ∀ (s : ByteArray) (w : World), s.size ≤ 1000 → Calls Tryz.prog 138 #[.string s] w fun e w' => e = .returned (.bool (goodB s)) ∧ Keep w w'
def PObjCheck (Pre : World → Prop) : Prop := ∀ (o : ObjV) (vc vd vs vr : Value) (w : World), ObjAt w o vc vd vs vr → ObjNum o → ObjFew o → Pre w →
  Calls Tryz.prog 59 #[objVal o vc vd vs vr] w fun e w' => Keep w w' ∧ ∃ u, e = .returned u ∧ OErr w' u (objW o)
def PObjFind : Prop := ∀ (o : ObjV) (vc vd vs vr : Value) (n : ByteArray) (w : World), ObjAt w o vc vd vs vr → ObjNum o → ObjFew o → n.size ≤ 1000 →
  Calls Tryz.prog 117 #[objVal o vc vd vs vr, .string n] w fun e w' => FindR o.syms n e ∧ Keep w w'
theorem encL_lt {o : ObjV} (ho : ObjNum o) (hk : ObjOk o) (hf : ObjFew o) : (∀ x ∈ encL o, x < 256) ∧ (encL o).length ≤ 20000 ∧ 16 ≤ (encL o).length := by
  have hstr : ∀ s : ByteArray, s.size ≤ 100 → (∀ x ∈ strB s, x < 256) ∧ (strB s).length ≤ 101 := fun s hs => by
    refine ⟨fun x hx => ?_, by simp [strB]; omega⟩
    simp only [strB, List.mem_cons, List.mem_map] at hx
    rcases hx with rfl | ⟨c, _, rfl⟩
    · omega
    · have := c.toNat_lt; omega
  have hnum : ∀ n x, x ∈ num4 n → x < 256 := fun n x hx => by
    simp only [num4, List.mem_cons, List.not_mem_nil, or_false] at hx
    omega
  have hfl : ∀ s : SymV, flagB s < 256 := fun s => by unfold flagB; split <;> split <;> omega
  have len_flat : ∀ {α : Type} (f : α → List Nat) (m : Nat) (l : List α), (∀ a ∈ l, (f a).length ≤ m) → (l.flatMap f).length ≤ l.length * m := fun f m l => by
    induction l with
    | nil => intro _; simp
    | cons a l ih =>
      intro h
      have h1 := h a (by simp)
      have h2 := ih (fun b hb => h b (by simp [hb]))
      rw [List.flatMap_cons, List.length_append, List.length_cons, Nat.add_mul]
      omega
  have hsl : (o.syms.flatMap symB).length ≤ o.syms.length * 106 := len_flat symB 106 _ fun s hs => by
    have := (hstr s.name (hf.symN s hs)).2
    simp only [symB, List.length_append, List.length_cons, num4_length]; omega
  have hrl : (o.rels.flatMap relB).length ≤ o.rels.length * 211 := len_flat relB 211 _ fun r hr => by
    have := (hstr r.comp (hf.relC r hr)).2
    have := (hstr r.name (hf.relN r hr)).2
    simp only [relB, List.length_append, List.length_cons, num4_length]; omega
  have hn := hstr o.name hf.name
  have f1 := hf.code
  have f2 := hf.data
  have f3 := hf.syms
  have f4 := hf.rels
  refine ⟨fun x hx => ?_, ?_, ?_⟩
  · simp only [encL, List.mem_append, List.mem_flatMap] at hx
    rcases hx with h | h | h | h | h | h | h | ⟨s, hs, h⟩ | h | ⟨r, hr, h⟩
    · simp only [hobj, List.mem_cons, List.not_mem_nil, or_false] at h; omega
    · exact hn.1 x h
    · exact hnum _ x h
    · exact ho.code x h
    · exact hnum _ x h
    · exact ho.data x h
    · exact hnum _ x h
    · simp only [symB, List.mem_append, List.mem_cons] at h
      rcases h with h | rfl | h
      · exact (hstr _ (hf.symN s hs)).1 x h
      · exact hfl s
      · exact hnum _ x h
    · exact hnum _ x h
    · have := (hk.rels r hr).2.1
      simp only [relB, List.mem_append, List.mem_cons] at h
      rcases h with rfl | h | h | h | h
      · omega
      · exact hnum _ x h
      · exact (hstr _ (hf.relC r hr)).1 x h
      · exact (hstr _ (hf.relN r hr)).1 x h
      · exact hnum _ x h
  · simp only [encL, List.length_append, num4_length]
    have : hobj.length = 4 := rfl
    omega
  · simp only [encL, List.length_append, num4_length]
    have : hobj.length = 4 := rfl
    omega
end Go.Proofs.YtbmjnfnekmeegaaGreatDoor

/- Objects of no great size, plain. -/
namespace Go.Proofs.YtbmjnfnekmeegaaGreatDoor
set_option linter.unusedVariables false
set_option linter.unusedSimpArgs false
open Go.RowKit
/-- What of an object is not great. -/
structure ObjMid (o : ObjV) : Prop where
  name : o.name.size ≤ 1000
  code : o.code.length ≤ 100000
  data : o.data.length ≤ 100000
  syms : o.syms.length ≤ 1000
  rels : o.rels.length ≤ 1000
  symN : ∀ s ∈ o.syms, s.name.size ≤ 1000
  relC : ∀ r ∈ o.rels, r.comp.size ≤ 1000
  relN : ∀ r ∈ o.rels, r.name.size ≤ 1000
theorem ObjFew.mid {o : ObjV} (h : ObjFew o) : ObjMid o := by
  refine ⟨?_, ?_, ?_, ?_, ?_, fun s hs => ?_, fun r hr => ?_, fun r hr => ?_⟩
  · have := h.name; omega
  · have := h.code; omega
  · have := h.data; omega
  · have := h.syms; omega
  · have := h.rels; omega
  · have := h.symN s hs; omega
  · have := h.relC r hr; omega
  · have := h.relN r hr; omega
end Go.Proofs.YtbmjnfnekmeegaaGreatDoor

/- The program's letters, digits, Name. -/
namespace Go.Proofs.YtbmjnfnekmeegaaGreatDoor
set_option linter.unusedVariables false
set_option linter.unusedSimpArgs false
open Go.RowKit
theorem pletterO_any (c : Int) (w : World) : Calls Tryz.prog 175 #[.int .u8 c] w fun e w' => e = .returned (.bool (lxLetter c)) ∧ w = w' := by
  rcases (by omega : c < 65 ∨ (65 ≤ c ∧ c ≤ 90) ∨ (91 ≤ c ∧ c ≤ 94) ∨ c = 95 ∨ c = 96 ∨ (97 ≤ c ∧ c ≤ 122) ∨ 123 ≤ c) with h | h | h | h | h | h | h
  · have q : (c == 95) = false := by simp; omega
    rw [show lxLetter c = false by rw [← Bool.not_eq_true, lxLetter_iff]; omega]
    go_enter Tryz.func175, Tryz.ntmps175
    go_wp2_with fail
    go_ret
    exact ⟨rfl, rfl⟩
  · obtain ⟨h2, h3⟩ := h
    have q : (c == 95) = false := by simp; omega
    rw [show lxLetter c = true by rw [lxLetter_iff]; omega]
    go_enter Tryz.func175, Tryz.ntmps175
    go_wp2_with fail
    go_ret
    exact ⟨rfl, rfl⟩
  · obtain ⟨h2, h3⟩ := h
    have q : (c == 95) = false := by simp; omega
    have q2 : decide (c ≤ 90) = false := decide_eq_false (by omega)
    rw [show lxLetter c = false by rw [← Bool.not_eq_true, lxLetter_iff]; omega]
    go_enter Tryz.func175, Tryz.ntmps175
    go_wp2_with fail
    go_ret
    exact ⟨rfl, rfl⟩
  · subst h
    go_enter Tryz.func175, Tryz.ntmps175
    go_wp2_with fail
    go_ret
    exact ⟨rfl, rfl⟩
  · subst h
    go_enter Tryz.func175, Tryz.ntmps175
    go_wp2_with fail
    go_ret
    exact ⟨rfl, rfl⟩
  · obtain ⟨h2, h3⟩ := h
    rw [show lxLetter c = true by rw [lxLetter_iff]; omega]
    go_enter Tryz.func175, Tryz.ntmps175
    go_wp2_with fail
    go_ret
    exact ⟨rfl, rfl⟩
  · have q : (c == 95) = false := by simp; omega
    have q2 : decide (c ≤ 90) = false := decide_eq_false (by omega)
    have q3 : decide (c ≤ 122) = false := decide_eq_false (by omega)
    rw [show lxLetter c = false by rw [← Bool.not_eq_true, lxLetter_iff]; omega]
    go_enter Tryz.func175, Tryz.ntmps175
    go_wp2_with fail
    go_ret
    exact ⟨rfl, rfl⟩
theorem pdigitO_any (c : Int) (w : World) : Calls Tryz.prog 174 #[.int .u8 c] w fun e w' => e = .returned (.bool (lxDigit c)) ∧ w = w' := by
  rcases (by omega : c < 48 ∨ (48 ≤ c ∧ c ≤ 57) ∨ 58 ≤ c) with h | h | h
  · rw [show lxDigit c = false by rw [← Bool.not_eq_true, lxDigit_iff]; omega]
    go_enter Tryz.func174, Tryz.ntmps174
    go_wp2_with fail
    go_ret
    exact ⟨rfl, rfl⟩
  · obtain ⟨h2, h3⟩ := h
    rw [show lxDigit c = true by rw [lxDigit_iff]; omega]
    go_enter Tryz.func174, Tryz.ntmps174
    go_wp2_with fail
    go_ret
    exact ⟨rfl, rfl⟩
  · have q : decide (c ≤ 57) = false := decide_eq_false (by omega)
    rw [show lxDigit c = false by rw [← Bool.not_eq_true, lxDigit_iff]; omega]
    go_enter Tryz.func174, Tryz.ntmps174
    go_wp2_with fail
    go_ret
    exact ⟨rfl, rfl⟩
set_option maxHeartbeats 1000000 in
theorem pname_any (s : ByteArray) (hs : s.size ≤ 140737488355328) (w : World) : Calls Tryz.prog 138 #[.string s] w fun e w' => e = .returned (.bool (goodB s)) ∧ w = w' := by
  by_cases h0 : s.size = 0
  · rw [goodB_none h0]
    have h1 : (s.size : Int) = 0 := by omega
    go_enter Tryz.func138, Tryz.ntmps138
    go_wp2_with fail
    go_ret
    exact ⟨rfl, rfl⟩
  have h0' : 0 < s.size := by omega
  have h0i : (0 : Int) < (s.size : Int) := by omega
  have E := goodB_some h0'
  by_cases h16 : s.size ≤ 16
  · have h16i : (s.size : Int) ≤ 16 := by omega
    have q0 : ((s.size : Int) == 0) = false := beq_eq_false_iff_ne.2 (by omega)
    have q16 : decide ((16 : Int) < (s.size : Int)) = false := decide_eq_false (by omega)
    have CD := Lib.hid (fun W => pdigitO_any (s[0]'h0').toNat W)
    rw [decide_eq_true h16, Bool.and_true] at E
    cases hd : lxDigit (s[0]'h0').toNat with
    | true =>
      rw [hd] at E CD
      rw [E]
      clear hd E
      go_enter Tryz.func138, Tryz.ntmps138
      go_wp2_with ((with_reducible refine (CD.out _).mono ?_); rintro e w' ⟨rfl, rfl⟩)
      go_ret
      exact ⟨rfl, rfl⟩
    | false =>
      rw [hd] at E CD
      rw [Bool.not_false, Bool.true_and] at E
      obtain ⟨g, hg⟩ : ∃ g, g = goodB s := ⟨_, rfl⟩
      rw [← hg] at E ⊢
      have HE := Lib.hid E
      clear hd E hg
      go_enter Tryz.func138, Tryz.ntmps138
      go_wp2_with ((with_reducible refine (CD.out _).mono ?_); rintro e w' ⟨rfl, rfl⟩)
      go_loop [3, 19] (fun _ i => ∃ k : Nat, k ≤ s.size ∧ i = .int .i64 (k : Int) ∧ g = (s.data.toList.drop k).all goodC) (fun _ i => s.size - (intOf i).toNat)
      case atStart => exact ⟨0, Nat.zero_le _, rfl, by rw [List.drop_zero]; exact HE.out⟩
      case round =>
        obtain ⟨k, hk, rfl, hi⟩ := hrel
        have HN := Lib.hid hi
        clear hi
        by_cases h : k < s.size
        · obtain ⟨y, hy⟩ : ∃ y, y = lxLetter (s[k]'h).toNat := ⟨_, rfl⟩
          obtain ⟨z, hz⟩ : ∃ z, z = lxDigit (s[k]'h).toNat := ⟨_, rfl⟩
          have hst : g = ((y || z) && (s.data.toList.drop (k + 1)).all goodC) := by
            have e := all_at (l := s.data.toList) (k := k) (by simpa using h)
            rw [HN.out, e, hy, hz]
            rfl
          have CLk := Lib.hid (fun W => pletterO_any (s[k]'h).toNat W)
          have CDk := Lib.hid (fun W => pdigitO_any (s[k]'h).toNat W)
          rw [← hy] at CLk
          rw [← hz] at CDk
          have hki : (k : Int) < (s.size : Int) := by omega
          clear hy hz
          cases y
          · cases z
            · rw [Bool.or_false, Bool.false_and] at hst
              subst hst
              go_wp2_with (first | ((with_reducible refine (CLk.out _).mono ?_); rintro e w' ⟨rfl, rfl⟩) | ((with_reducible refine (CDk.out _).mono ?_); rintro e w' ⟨rfl, rfl⟩))
              go_ret
              exact ⟨rfl, rfl⟩
            · rw [Bool.or_true, Bool.true_and] at hst
              have HS := Lib.hid hst
              clear hst
              go_wp2_with (first | ((with_reducible refine (CLk.out _).mono ?_); rintro e w' ⟨rfl, rfl⟩) | ((with_reducible refine (CDk.out _).mono ?_); rintro e w' ⟨rfl, rfl⟩))
              go_round
              case rel => exact ⟨k + 1, h, by go_num, HS.out⟩
              case measure => simp [intOf]; omega
          · rw [Bool.true_or, Bool.true_and] at hst
            have HS := Lib.hid hst
            clear hst
            go_wp2_with (first | ((with_reducible refine (CLk.out _).mono ?_); rintro e w' ⟨rfl, rfl⟩) | ((with_reducible refine (CDk.out _).mono ?_); rintro e w' ⟨rfl, rfl⟩))
            go_round
            case rel => exact ⟨k + 1, h, by go_num, HS.out⟩
            case measure => simp [intOf]; omega
        · obtain rfl : k = s.size := by omega
          have e : g = true := by
            rw [HN.out, List.drop_eq_nil_of_le (by simp)]
            rfl
          subst e
          go_wp2_with fail
          go_ret
          exact ⟨rfl, rfl⟩
  · have h16i : (16 : Int) < (s.size : Int) := by omega
    have q0 : ((s.size : Int) == 0) = false := beq_eq_false_iff_ne.2 (by omega)
    have q16 : decide ((16 : Int) < (s.size : Int)) = true := decide_eq_true (by omega)
    have e : goodB s = false := by rw [E, decide_eq_false h16, Bool.and_false, Bool.false_and]
    rw [e]
    clear E e
    go_enter Tryz.func138, Tryz.ntmps138
    go_wp2_with fail
    go_ret
    exact ⟨rfl, rfl⟩
end Go.Proofs.YtbmjnfnekmeegaaGreatDoor

/- The program's Find. -/
namespace Go.Proofs.YtbmjnfnekmeegaaGreatDoor
set_option linter.unusedVariables false
set_option linter.unusedSimpArgs false
open Go.RowKit
set_option maxHeartbeats 2000000 in
set_option maxRecDepth 100000 in
theorem pfindO_any (o : ObjV) (vc vd vs vr : Value) (n : ByteArray) (w : World) (h : ObjAt w o vc vd vs vr) (few : o.syms.length ≤ 1000000) : Calls Tryz.prog 117 #[objVal o vc vd vs vr, .string n] w fun e w' => FindR o.syms n e ∧ Keep w w' := by
  obtain ⟨p, cap, rfl, hcap, hx⟩ := h.symsAt
  unfold objVal
  clear h
  have K0 : Hid (Keep w ((w.alloc (.cells #[.string o.name, vc, vd, .slice p o.syms.length cap, vr] 76)).alloc (.cells #[.string ⟨#[]⟩, .bool false, .int .u32 0, .bool false] 88))) := Lib.hid (((Keep.refl _).alloc _).alloc _)
  have R0 : Hid (Box ((w.alloc (.cells #[.string o.name, vc, vd, .slice p o.syms.length cap, vr] 76)).alloc (.cells #[.string ⟨#[]⟩, .bool false, .int .u32 0, .bool false] 88)) (w.heap.size + 1) #[.string ⟨#[]⟩, .bool false, .int .u32 0, .bool false]) := Lib.hid (Box.new1 _ _ _ _)
  have HX : Hid (o.syms = [] ∨ ∃ b off, p = some ⟨b, off, none⟩ ∧ b < w.heap.size ∧ ∀ (i : Nat) (s : SymV), o.syms[i]? = some s → w.cell? ⟨b, off + i * 4, none⟩ = some (.string s.name) ∧ w.cell? ⟨b, off + i * 4 + 1, none⟩ = some (.bool s.data) ∧ w.cell? ⟨b, off + i * 4 + 2, none⟩ = some (.int .u32 s.off) ∧ w.cell? ⟨b, off + i * 4 + 3, none⟩ = some (.bool s.exp)) := Lib.hid hx
  clear hx
  go_enter Tryz.func117, Tryz.ntmps117
  go_wp2_with fail
  have AS := Lib.hid (Keep.refl ((w.alloc (.cells #[.string o.name, vc, vd, .slice p o.syms.length cap, vr] 76)).alloc (.cells #[.string ⟨#[]⟩, .bool false, .int .u32 0, .bool false] 88)))
  go_loopw [7, 11] (fun _ i wr => ∃ k : Nat, k ≤ o.syms.length ∧ i = .int .i64 (k : Int) ∧ (∀ (j : Nat) (x : SymV), j < k → o.syms[j]? = some x → x.name ≠ n) ∧ Keep ((w.alloc (.cells #[.string o.name, vc, vd, .slice p o.syms.length cap, vr] 76)).alloc (.cells #[.string ⟨#[]⟩, .bool false, .int .u32 0, .bool false] 88)) wr) (fun _ i _ => o.syms.length - (intOf i).toNat)
  case atStart => exact ⟨0, Nat.zero_le _, rfl, (fun j x hj => absurd hj (by omega)), AS.out⟩
  case round =>
    obtain ⟨k, hk, rfl, hno, hK⟩ := hrel
    have HN := Lib.hid hno
    have HK := Lib.hid hK
    clear hno hK
    have szr := HK.out.size
    have szr2 : w.heap.size + 2 ≤ wr.heap.size := by simpa using szr
    have KR := Lib.hid (K0.out.trans HK.out)
    clear szr
    by_cases hlt : k < o.syms.length
    · obtain ⟨x, hx⟩ : ∃ x, o.syms[k]? = some x := ⟨_, List.getElem?_eq_getElem hlt⟩
      have HKx := Lib.hid hx
      have hki : (k : Int) < (o.syms.length : Int) := by omega
      rcases HX.out with hnil | ⟨b, off, rfl, hb, hxx⟩
      · rw [hnil] at hx; simp at hx
      obtain ⟨n0, n1, n2, n3⟩ := hxx k x hx
      replace n0 := KR.out.cellOf n0
      replace n1 := KR.out.cellOf n1
      replace n2 := KR.out.cellOf n2
      replace n3 := KR.out.cellOf n3
      have R1 := ((R0.out.keep HK.out).alloc (.cells #[.string x.name, .bool x.data, .int .u32 x.off, .bool x.exp] 88))
      have r0 := R1.cells
      have rf := R1.thawed
      clear hx hxx R1
      rcases Bool.eq_false_or_eq_true (x.name.toList == n.toList) with d | d
      · have e : x.name = n := by
          rw [ostr_beq] at d
          exact of_decide_eq_true d
        have HF := Lib.hid (findS_at n x _ k HKx.out e HN.out)
        clear e
        go_wp2_with fail
        refine bodyPost_ret (v := .tuple #[symVal x, .bool true]) (by simp [results, Tryz.results117, go_sem, r0, symVal]; done) rfl ⟨by unfold FindR; rw [HF.out], ?_⟩
        repeat (with_reducible refine Keep.setAt ?_ ?_ _; · first | omega | (simp; done) | (simp; omega))
        exact KR.out.alloc _
      · have HS2 : Hid (∀ (j : Nat) (y : SymV), j < k + 1 → o.syms[j]? = some y → y.name ≠ n) := Lib.hid (fun j y hj hy => by
          by_cases e : j = k
          · subst e
            rw [HKx.out] at hy
            cases hy
            intro hc
            rw [ostr_beq, hc] at d
            simp at d
          · exact HN.out j y (by omega) hy)
        go_wp2_with fail
        go_roundw
        case rel => exact ⟨k + 1, hlt, by go_num, HS2.out, HK.out.alloc _⟩
        case measure => simp [intOf]; omega
    · obtain rfl : k = o.syms.length := by omega
      have HF := Lib.hid (findS_no n o.syms (fun j x hj => HN.out j x (List.getElem?_eq_some_iff.1 hj).1 hj))
      have R1 := R0.out.keep HK.out
      have r0 := R1.cells
      have rf := R1.thawed
      clear R1
      go_wp2_with fail
      refine bodyPost_ret (v := .tuple #[symVal noSym, .bool false]) (by simp [results, Tryz.results117, go_sem, r0, symVal, noSym]; done) rfl ⟨by unfold FindR; rw [HF.out], ?_⟩
      repeat (with_reducible refine Keep.setAt ?_ ?_ _; · first | omega | (simp; done) | (simp; omega))
      exact KR.out
theorem oName : PObjName := fun s w hs => (pname_any s (by omega) w).mono fun e w' h => ⟨h.1, h.2 ▸ Keep.refl _⟩
theorem oFind : PObjFind := fun o vc vd vs vr n w h _ hf _ => pfindO_any o vc vd vs vr n w h (by have := hf.syms; omega)
end Go.Proofs.YtbmjnfnekmeegaaGreatDoor

/- The program's fault, section: an Errno of a part; what is wrong with a section. -/
namespace Go.Proofs.YtbmjnfnekmeegaaGreatDoor
set_option linter.unusedVariables false
set_option linter.unusedSimpArgs false
open Go.RowKit Go.Extern.Stop Go.Stop Go.Extern
theorem faultO_zero (part : ByteArray) (at_ : Int) (w : World) :
    Calls Tryz.prog 155 #[.string part, .int .i64 at_, .int .i64 0] w fun e w' => e = .returned .nilIface ∧ Keep w w' := by
  go_enter Tryz.func155, Tryz.ntmps155
  go_wp2_with fail
  refine (is_wrapped _ part at_ 0 _ (Box.new _ _ _)).mono ?_
  rintro e w1 ⟨rfl, hk1⟩
  go_wp2_with fail
  go_ret
  exact ⟨rfl, ((Keep.refl _).alloc _).trans hk1⟩
theorem faultO_not (part : ByteArray) (at_ n : Int) (hn : ¬ n = 0) (w : World) :
    Calls Tryz.prog 155 #[.string part, .int .i64 at_, .int .i64 n] w fun e w' => ∃ q, e = .returned (faultP q) ∧ w.heap.size ≤ q ∧ Box w' q #[.string part, .int .i64 at_, .iface 139 (.int .i64 n)] ∧ Keep w w' := by
  unfold faultP
  go_enter Tryz.func155, Tryz.ntmps155
  go_wp2_with fail
  refine (is_otherO _ part at_ n 0 hn _ (Box.new _ _ _)).mono ?_
  rintro e w1 ⟨rfl, hk1⟩
  have B1 := (Box.new w #[.string part, .int .i64 at_, .iface 139 (.int .i64 n)] 124).keep hk1
  go_wp2_with fail
  go_ret
  exact ⟨_, rfl, Nat.le_refl _, B1, ((Keep.refl _).alloc _).trans hk1⟩
theorem faultO_any (part : ByteArray) (at_ n : Int) (w : World) :
    Calls Tryz.prog 155 #[.string part, .int .i64 at_, .int .i64 n] w fun e w' => ∃ v, e = .returned v ∧ FauR part at_ n w' v ∧ Keep w w' := by
  by_cases hn : n = 0
  · subst hn
    refine (faultO_zero part at_ w).mono ?_
    rintro e w' ⟨rfl, hk⟩
    exact ⟨_, rfl, .inl ⟨rfl, rfl⟩, hk⟩
  · refine (faultO_not part at_ n hn w).mono ?_
    rintro e w' ⟨q, rfl, _, hB, hk⟩
    exact ⟨_, rfl, .inr ⟨q, hn, rfl, hB⟩, hk⟩
/-- What is wrong with a section of so many bytes, of pieces of so many. -/
def secE (n : Nat) (p : Int) : Int := if 16384 < n then 15 else if (n : Int) % p ≠ 0 then 5 else 0
theorem psecO_any (q : Option Addr) (n cap : Nat) (p : Int) (hn : n ≤ 140737488355328) (hp : p = 4 ∨ p = 16) (w : World) :
    Calls Tryz.prog 156 #[.slice q n cap, .int .i64 p] w fun e w' => e = .returned (.int .i64 (secE n p)) ∧ Keep w w' := by
  unfold secE
  rcases hp with rfl | rfl
  all_goals (
    by_cases h1 : 16384 < n
    · rw [if_pos h1]
      have h1i : (16384 : Int) < (n : Int) := by omega
      go_enter Tryz.func156, Tryz.ntmps156
      go_wp2_with fail
      go_ret
      exact ⟨rfl, Keep.refl _⟩
    rw [if_neg h1]
    have h1i : ¬ (16384 : Int) < (n : Int) := by omega)
  · by_cases h2 : (n : Int) % 4 = 0
    · rw [if_neg (by simpa using h2)]
      have h3 : (((n : Int) % 4) != 0) = false := by rw [h2]; rfl
      go_enter Tryz.func156, Tryz.ntmps156
      go_wp2_with fail
      go_ret
      exact ⟨rfl, Keep.refl _⟩
    · rw [if_pos h2]
      have h3 : (((n : Int) % 4) != 0) = true := by simpa using h2
      go_enter Tryz.func156, Tryz.ntmps156
      go_wp2_with fail
      go_ret
      exact ⟨rfl, Keep.refl _⟩
  · by_cases h2 : (n : Int) % 16 = 0
    · rw [if_neg (by simpa using h2)]
      have h3 : (((n : Int) % 16) != 0) = false := by rw [h2]; rfl
      go_enter Tryz.func156, Tryz.ntmps156
      go_wp2_with fail
      go_ret
      exact ⟨rfl, Keep.refl _⟩
    · rw [if_pos h2]
      have h3 : (((n : Int) % 16) != 0) = true := by simpa using h2
      go_enter Tryz.func156, Tryz.ntmps156
      go_wp2_with fail
      go_ret
      exact ⟨rfl, Keep.refl _⟩
end Go.Proofs.YtbmjnfnekmeegaaGreatDoor
