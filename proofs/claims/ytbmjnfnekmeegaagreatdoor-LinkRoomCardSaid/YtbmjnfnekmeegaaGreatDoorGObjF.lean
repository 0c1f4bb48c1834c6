/- ObjGood, ObjFind, ObjGen: The reference's Good: is it a Name? -/
import Derived.Test.YtbmjnfnekmeegaaGreatDoorGRows
import Derived.Test.YtbmjnfnekmeegaaGreatDoorLexOne
import Derived.WalkKit
import Derived.ProofKit
/- The reference's Good: is it a Name? -/
namespace Go.Proofs.YtbmjnfnekmeegaaGreatDoor
set_option linter.unusedVariables false
set_option linter.unusedSimpArgs false
open Go.RowKit
theorem list_hd (s : ByteArray) (h : 0 < s.size) : s.data.toList = s[0] :: s.data.toList.drop 1 := by
  have hl : 0 < s.data.toList.length := by simpa using h
  have e := List.drop_eq_getElem_cons hl
  rw [List.drop_zero] at e
  rw [e]
  rfl
theorem all_at {l : List UInt8} {k : Nat} (h : k < l.length) : (l.drop k).all goodC = (goodC (l[k]'h) && (l.drop (k + 1)).all goodC) := by
  rw [List.drop_eq_getElem_cons h, List.all_cons]
theorem goodB_none {s : ByteArray} (h : s.size = 0) : goodB s = false := by
  have : s.data.toList = [] := List.length_eq_zero_iff.1 (by simpa using h)
  unfold goodB; rw [this]; rfl
theorem goodB_some {s : ByteArray} (h : 0 < s.size) : goodB s = (!lxDigit (s[0]'h).toNat && decide (s.size ≤ 16) && s.data.toList.all goodC) := by
  have e := list_hd s h
  have hl : s.data.toList.length = s.size := by simp
  unfold goodB
  rw [e] at hl ⊢
  simp only [goodL]
  congr 2
  simp only [List.length_cons] at hl
  exact decide_eq_decide.2 (by omega)
set_option maxHeartbeats 1000000 in
theorem rgood_any (s : ByteArray) (hs : s.size ≤ 140737488355328) (w : World) : Calls Tryz.prog 84 #[.string s] w fun e w' => e = .returned (.bool (goodB s)) ∧ w = w' := by
  by_cases h0 : s.size = 0
  · rw [goodB_none h0]
    have h1 : (s.size : Int) = 0 := by omega
    go_enter Tryz.func84, Tryz.ntmps84
    go_wp2_with fail
    go_ret
    exact ⟨rfl, rfl⟩
  have h0' : 0 < s.size := by omega
  have h0i : (0 : Int) < (s.size : Int) := by omega
  have E := goodB_some h0'
  by_cases h16 : s.size ≤ 16
  · have h16i : (s.size : Int) ≤ 16 := by omega
    have CD := Lib.hid (fun W => rdigit_any (s[0]'h0').toNat W)
    rw [decide_eq_true h16, Bool.and_true] at E
    cases hd : lxDigit (s[0]'h0').toNat with
    | true =>
      rw [hd] at E CD
      rw [E]
      clear hd E
      go_enter Tryz.func84, Tryz.ntmps84
      go_wp2_with ((with_reducible refine (CD.out _).mono ?_); rintro e w' ⟨rfl, rfl⟩)
      go_ret
      exact ⟨rfl, rfl⟩
    | false =>
      rw [hd] at E CD
      rw [Bool.not_false, Bool.true_and] at E
      obtain ⟨g, hg⟩ : ∃ g, g = goodB s := ⟨_, rfl⟩
      rw [← hg] at E ⊢
      have HE := Lib.hid E
      clear hd E hg
      go_enter Tryz.func84, Tryz.ntmps84
      go_wp2_with ((with_reducible refine (CD.out _).mono ?_); rintro e w' ⟨rfl, rfl⟩)
      go_loop [3] (fun i => ∃ k : Nat, k ≤ s.size ∧ i = .int .i64 (k : Int) ∧ g = (s.data.toList.drop k).all goodC) (fun i => s.size - (intOf i).toNat)
      case atStart => exact ⟨0, Nat.zero_le _, rfl, by rw [List.drop_zero]; exact HE.out⟩
      case round =>
        obtain ⟨k, hk, rfl, hi⟩ := hrel
        have HN := Lib.hid hi
        clear hi
        by_cases h : k < s.size
        · obtain ⟨y, hy⟩ : ∃ y, y = lxLetter (s[k]'h).toNat := ⟨_, rfl⟩
          obtain ⟨z, hz⟩ : ∃ z, z = lxDigit (s[k]'h).toNat := ⟨_, rfl⟩
          have hst : g = ((y || z) && (s.data.toList.drop (k + 1)).all goodC) := by
            have e := all_at (l := s.data.toList) (k := k) (by simpa using h)
            rw [HN.out, e, hy, hz]
            rfl
          have CLk := Lib.hid (fun W => rletter_any (s[k]'h).toNat W)
          have CDk := Lib.hid (fun W => rdigit_any (s[k]'h).toNat W)
          rw [← hy] at CLk
          rw [← hz] at CDk
          have hki : (k : Int) < (s.size : Int) := by omega
          clear hy hz
          cases y
          · cases z
            · rw [Bool.or_false, Bool.false_and] at hst
              subst hst
              go_wp2_with (first | ((with_reducible refine (CLk.out _).mono ?_); rintro e w' ⟨rfl, rfl⟩) | ((with_reducible refine (CDk.out _).mono ?_); rintro e w' ⟨rfl, rfl⟩))
              go_ret
              exact ⟨rfl, rfl⟩
            · rw [Bool.or_true, Bool.true_and] at hst
              have HS := Lib.hid hst
              clear hst
              go_wp2_with (first | ((with_reducible refine (CLk.out _).mono ?_); rintro e w' ⟨rfl, rfl⟩) | ((with_reducible refine (CDk.out _).mono ?_); rintro e w' ⟨rfl, rfl⟩))
              go_round
              case rel => exact ⟨k + 1, h, by go_num, HS.out⟩
              case measure => simp [intOf]; omega
          · rw [Bool.true_or, Bool.true_and] at hst
            have HS := Lib.hid hst
            clear hst
            go_wp2_with (first | ((with_reducible refine (CLk.out _).mono ?_); rintro e w' ⟨rfl, rfl⟩) | ((with_reducible refine (CDk.out _).mono ?_); rintro e w' ⟨rfl, rfl⟩))
            go_round
            case rel => exact ⟨k + 1, h, by go_num, HS.out⟩
            case measure => simp [intOf]; omega
        · obtain rfl : k = s.size := by omega
          have e : g = true := by
            rw [HN.out, List.drop_eq_nil_of_le (by simp)]
            rfl
          subst e
          go_wp2_with fail
          go_ret
          exact ⟨rfl, rfl⟩
  · have h16i : (16 : Int) < (s.size : Int) := by omega
    have e : goodB s = false := by rw [E, decide_eq_false h16, Bool.and_false, Bool.false_and]
    rw [e]
    clear E e
    go_enter Tryz.func84, Tryz.ntmps84
    go_wp2_with fail
    go_ret
    exact ⟨rfl, rfl⟩
end Go.Proofs.YtbmjnfnekmeegaaGreatDoor

/- The reference's Find, Most. -/
namespace Go.Proofs.YtbmjnfnekmeegaaGreatDoor
set_option linter.unusedVariables false
set_option linter.unusedSimpArgs false
open Go.RowKit
def objVal (o : ObjV) (vc vd vs vr : Value) : Value := .agg #[.string o.name, vc, vd, vs, vr]
def symVal (s : SymV) : Value := .agg #[.string s.name, .bool s.data, .int .u32 s.off, .bool s.exp]
def noSym : SymV := ⟨⟨#[]⟩, false, 0, false⟩
theorem ostr_beq (a b : ByteArray) : (a.toList == b.toList) = decide (a = b) := by
  rw [ByteArray.toList_eq, ByteArray.toList_eq]
  by_cases h : a = b
  · subst h; simp
  · rw [decide_eq_false h, beq_eq_false_iff_ne]
    exact fun e => h (ByteArray.ext (Array.ext' e))
theorem findS_at (n : ByteArray) (s : SymV) : ∀ (l : List SymV) (k : Nat), l[k]? = some s → s.name = n → (∀ (j : Nat) (x : SymV), j < k → l[j]? = some x → x.name ≠ n) → findS l n = some s
  | [], k, h, _, _ => by simp at h
  | x :: l, 0, h, hs, _ => by
    simp at h
    subst h
    simp [findS, hs]
  | x :: l, k + 1, h, hs, hn => by
    have h0 := hn 0 x (by omega) rfl
    unfold findS
    rw [if_neg h0]
    exact findS_at n s l k (by simpa using h) hs fun j y hj hy => hn (j + 1) y (by omega) (by simpa using hy)
theorem findS_no (n : ByteArray) : ∀ (l : List SymV), (∀ (j : Nat) (x : SymV), l[j]? = some x → x.name ≠ n) → findS l n = none
  | [], _ => rfl
  | x :: l, hn => by
    unfold findS
    rw [if_neg (hn 0 x rfl)]
    exact findS_no n l fun j y hy => hn (j + 1) y (by simpa using hy)
/-- What Find answers. -/
def FindR (l : List SymV) (n : ByteArray) (e : Ending) : Prop := match findS l n with
  | some s => e = .returned (.tuple #[symVal s, .bool true])
  | none => e = .returned (.tuple #[symVal noSym, .bool false])
/-- The symbols as a slice says them: none, or cells at a place. -/
theorem ObjAt.symsAt {w : World} {o : ObjV} {vc vd vs vr : Value} (h : ObjAt w o vc vd vs vr) : ∃ p cap, vs = .slice p o.syms.length cap ∧ o.syms.length ≤ cap ∧ (o.syms = [] ∨ ∃ b off, p = some ⟨b, off, none⟩ ∧ b < w.heap.size ∧ ∀ (i : Nat) (s : SymV), o.syms[i]? = some s →
    w.cell? ⟨b, off + i * 4, none⟩ = some (.string s.name) ∧ w.cell? ⟨b, off + i * 4 + 1, none⟩ = some (.bool s.data) ∧ w.cell? ⟨b, off + i * 4 + 2, none⟩ = some (.int .u32 s.off) ∧ w.cell? ⟨b, off + i * 4 + 3, none⟩ = some (.bool s.exp)) := by
  by_cases h0 : o.syms = []
  · obtain ⟨p, cap, h1, h2, _⟩ := h.syms
    exact ⟨p, cap, h1, h2, .inl h0⟩
  · obtain ⟨s, hs⟩ : ∃ s, o.syms[0]? = some s := by
      cases hl : o.syms with
      | nil => exact absurd hl h0
      | cons a l => exact ⟨a, rfl⟩
    obtain ⟨b, off, cap, h1, h2, h3, _⟩ := h.sym hs
    refine ⟨_, cap, h1, h2, .inr ⟨b, off, rfl, h3, fun i t ht => ?_⟩⟩
    obtain ⟨b', off', cap', h1', _, _, c⟩ := h.sym ht
    rw [h1] at h1'
    simp only [Value.slice.injEq, Option.some.injEq, Addr.mk.injEq, and_true, true_and] at h1'
    obtain ⟨⟨rfl, rfl⟩, _⟩ := h1'
    exact c
theorem ObjAt.relsAt {w : World} {o : ObjV} {vc vd vs vr : Value} (h : ObjAt w o vc vd vs vr) : ∃ p cap, vr = .slice p o.rels.length cap ∧ o.rels.length ≤ cap ∧ (o.rels = [] ∨ ∃ b off, p = some ⟨b, off, none⟩ ∧ b < w.heap.size ∧ ∀ (i : Nat) (r : RelV), o.rels[i]? = some r →
    w.cell? ⟨b, off + i * 5, none⟩ = some (.int .i64 r.kind) ∧ w.cell? ⟨b, off + i * 5 + 1, none⟩ = some (.int .u32 r.off) ∧ w.cell? ⟨b, off + i * 5 + 2, none⟩ = some (.string r.comp) ∧ w.cell? ⟨b, off + i * 5 + 3, none⟩ = some (.string r.name) ∧ w.cell? ⟨b, off + i * 5 + 4, none⟩ = some (.int .u16 r.perm)) := by
  by_cases h0 : o.rels = []
  · obtain ⟨p, cap, h1, h2, _⟩ := h.rels
    exact ⟨p, cap, h1, h2, .inl h0⟩
  · obtain ⟨s, hs⟩ : ∃ s, o.rels[0]? = some s := by
      cases hl : o.rels with
      | nil => exact absurd hl h0
      | cons a l => exact ⟨a, rfl⟩
    obtain ⟨b, off, cap, h1, h2, h3, _⟩ := h.rel hs
    refine ⟨_, cap, h1, h2, .inr ⟨b, off, rfl, h3, fun i t ht => ?_⟩⟩
    obtain ⟨b', off', cap', h1', _, _, c⟩ := h.rel ht
    rw [h1] at h1'
    simp only [Value.slice.injEq, Option.some.injEq, Addr.mk.injEq, and_true, true_and] at h1'
    obtain ⟨⟨rfl, rfl⟩, _⟩ := h1'
    exact c
set_option maxHeartbeats 2000000 in
set_option maxRecDepth 100000 in
theorem rfind_any (o : ObjV) (vc vd vs vr : Value) (n : ByteArray) (w : World) (h : ObjAt w o vc vd vs vr) (few : o.syms.length ≤ 1000000) : Calls Tryz.prog 89 #[objVal o vc vd vs vr, .string n] w fun e w' => FindR o.syms n e ∧ Keep w w' := by
  obtain ⟨p, cap, rfl, hcap, hx⟩ := h.symsAt
  unfold objVal
  clear h
  have K0 : Hid (Keep w ((w.alloc (.cells #[.string o.name, vc, vd, .slice p o.syms.length cap, vr] 109)).alloc (.cells #[.string ⟨#[]⟩, .bool false, .int .u32 0, .bool false] 176))) := Lib.hid (((Keep.refl _).alloc _).alloc _)
  have R0 : Hid (Box ((w.alloc (.cells #[.string o.name, vc, vd, .slice p o.syms.length cap, vr] 109)).alloc (.cells #[.string ⟨#[]⟩, .bool false, .int .u32 0, .bool false] 176)) (w.heap.size + 1) #[.string ⟨#[]⟩, .bool false, .int .u32 0, .bool false]) := Lib.hid (Box.new1 _ _ _ _)
  have r0 := R0.out.cells
  have rf := R0.out.thawed
  rcases hx with hnil | ⟨b, off, rfl, hlt, hx⟩
  · have HN := Lib.hid hnil
    have z : ((o.syms.length : Nat) : Int) = 0 := by rw [hnil]; rfl
    clear hnil
    go_enter Tryz.func89, Tryz.ntmps89
    go_wp2_with fail
    go_loop [6] (fun i => i = .int .i64 0) (fun i => 0)
    case atStart => exact rfl
    case round =>
      obtain rfl := hrel
      go_wp2_with fail
      refine bodyPost_ret (v := .tuple #[symVal noSym, .bool false]) (by simp [results, Tryz.results89, go_sem, r0, symVal, noSym]; done) rfl ⟨by unfold FindR; rw [HN.out]; rfl, ?_⟩
      repeat (with_reducible refine Keep.setAt ?_ ?_ _; · first | omega | (simp; done) | (simp; omega))
      first | exact K0.out | exact ((Keep.refl _).alloc _).alloc _
  · have HX : Hid (∀ (i : Nat) (s : SymV), o.syms[i]? = some s → _) := Lib.hid (fun i s hs => And.intro (K0.out.cellOf (hx i s hs).1) (And.intro (K0.out.cellOf (hx i s hs).2.1) (And.intro (K0.out.cellOf (hx i s hs).2.2.1) (K0.out.cellOf (hx i s hs).2.2.2))))
    clear hx
    go_enter Tryz.func89, Tryz.ntmps89
    go_wp2_with fail
    go_loop [6] (fun i => ∃ k : Nat, k ≤ o.syms.length ∧ i = .int .i64 (k : Int) ∧ ∀ (j : Nat) (x : SymV), j < k → o.syms[j]? = some x → x.name ≠ n) (fun i => o.syms.length - (intOf i).toNat)
    case atStart => exact ⟨0, Nat.zero_le _, rfl, fun j x hj => absurd hj (by omega)⟩
    case round =>
      obtain ⟨k, hk, rfl, hno⟩ := hrel
      have HN := Lib.hid hno
      clear hno
      by_cases h : k < o.syms.length
      · obtain ⟨x, hx⟩ : ∃ x, o.syms[k]? = some x := ⟨_, List.getElem?_eq_getElem h⟩
        have HK := Lib.hid hx
        have hki : (k : Int) < (o.syms.length : Int) := by omega
        obtain ⟨n0, n1, n2, n3⟩ := HX.out k x hx
        clear hx
        rcases Bool.eq_false_or_eq_true (x.name.toList == n.toList) with d | d
        · have e : x.name = n := by
            rw [ostr_beq] at d
            exact of_decide_eq_true d
          have HF := Lib.hid (findS_at n x _ k HK.out e HN.out)
          clear e
          go_wp2_with fail
          refine bodyPost_ret (v := .tuple #[symVal x, .bool true]) (by simp [results, Tryz.results89, go_sem, r0, symVal]; done) rfl ⟨by unfold FindR; rw [HF.out], ?_⟩
          repeat (with_reducible refine Keep.setAt ?_ ?_ _; · first | omega | (simp; done) | (simp; omega))
          first | exact K0.out | exact ((Keep.refl _).alloc _).alloc _
        · have HS2 : Hid (∀ (j : Nat) (y : SymV), j < k + 1 → o.syms[j]? = some y → y.name ≠ n) := Lib.hid (fun j y hj hy => by
            by_cases e : j = k
            · subst e
              rw [HK.out] at hy
              cases hy
              intro hc
              rw [ostr_beq, hc] at d
              simp at d
            · exact HN.out j y (by omega) hy)
          go_wp2_with fail
          go_round
          case rel => exact ⟨k + 1, h, by go_num, HS2.out⟩
          case measure => simp [intOf]; omega
      · obtain rfl : k = o.syms.length := by omega
        have HF := Lib.hid (findS_no n o.syms (fun j x hj => HN.out j x (List.getElem?_eq_some_iff.1 hj).1 hj))
        go_wp2_with fail
        refine bodyPost_ret (v := .tuple #[symVal noSym, .bool false]) (by simp [results, Tryz.results89, go_sem, r0, symVal, noSym]; done) rfl ⟨by unfold FindR; rw [HF.out], ?_⟩
        repeat (with_reducible refine Keep.setAt ?_ ?_ _; · first | omega | (simp; done) | (simp; omega))
        first | exact K0.out | exact ((Keep.refl _).alloc _).alloc _
theorem rmost_any (d : Bool) (w : World) : Calls Tryz.prog 171 #[.bool d] w fun e w' => e = .returned (.int .u16 (mostP d)) ∧ w = w' := by
  cases d
  · go_enter Tryz.func171, Tryz.ntmps171
    go_wp2_with fail
    go_ret
    exact ⟨rfl, rfl⟩
  · go_enter Tryz.func171, Tryz.ntmps171
    go_wp2_with fail
    go_ret
    exact ⟨rfl, rfl⟩
end Go.Proofs.YtbmjnfnekmeegaaGreatDoor

/- Rows that are owned, as cells; what a loop that fills a field keeps; a part of a row; a field of what is wrong. -/
namespace Go.Proofs.YtbmjnfnekmeegaaGreatDoor
set_option linter.unusedVariables false
set_option linter.unusedSimpArgs false
open Go Go.RowKit
theorem oinfo_parts {e : TypeId} {z : Value} {n m : Nat} (h : (Tryz.prog.info? e).map (fun i => (i.zero, i.size, i.bytes)) = some (some z, n, m)) : ∃ i, Tryz.prog.info? e = some i ∧ i.zero = some z ∧ i.size = n ∧ i.bytes = m := by
  obtain ⟨i, hi, h2⟩ := Option.map_eq_some_iff.1 h
  simp only [Prod.mk.injEq] at h2
  exact ⟨i, hi, h2.1, h2.2.1, h2.2.2⟩
theorem take_flat {α : Type} (f : α → List Value) (l : List α) (k : Nat) (t : α) (h : l[k]? = some t) : (l.take (k + 1)).flatMap f = (l.take k).flatMap f ++ f t := by
  obtain ⟨hk, rfl⟩ := List.getElem?_eq_some_iff.1 h
  rw [List.take_succ_eq_append_getElem hk, List.flatMap_append]
  simp
/-- What is owned, as cells where a slice says; its block lies from the base on. -/
theorem owns_cells {w : World} {base : Nat} {e : TypeId} {size : Nat} {v : Value} {n : Nat} {xs : List Value} (h : w.ownsRow base e size v n xs) (hm : n ≤ maxLen) : ∃ p cap, v = .slice p n cap ∧ n ≤ cap ∧ cap ≤ maxLen ∧ (xs = [] ∨ ∃ b, p = some ⟨b, 0, none⟩ ∧ base ≤ b ∧ b < w.heap.size ∧ ∀ (i : Nat) (x : Value), xs[i]? = some x → w.cell? ⟨b, 0 + i, none⟩ = some x) := by
  obtain ⟨hl, ⟨rfl, rfl⟩ | ⟨g, cap, cur, rfl, hb, hg, hn, hc, hs, ht⟩⟩ := h
  · exact ⟨none, 0, rfl, Nat.le_refl _, Nat.zero_le _, .inl (List.length_eq_zero_iff.1 (by omega))⟩
  · have B : Box w g cur := ⟨e, hg⟩
    refine ⟨some ⟨g, 0, none⟩, cap, rfl, hn, hc, .inr ⟨g, rfl, hb, B.lt, fun i x hx => ?_⟩⟩
    have hi := (List.getElem?_eq_some_iff.1 hx).1
    rw [Nat.zero_add, B.cells, ← hx, ← ht, List.getElem?_take, if_pos (by omega)]
    simp
theorem ocell_but {S : Nat → Prop} {w w' : World} (k : KeepBut S w w') {b : Nat} (hb : b < w.heap.size) (hS : ¬ S b) {o : Nat} {v : Value} (h : w.cell? ⟨b, o, none⟩ = some v) : w'.cell? ⟨b, o, none⟩ = some v := by
  rw [← h]
  simp only [World.cell?, k.block b hb hS]
theorem keepBut_new {x : Nat} {w w1 w2 : World} (h : KeepBut (fun z => z = x) w w1) (k : KeepBut (fun z => w.heap.size ≤ z) w1 w2) : KeepBut (fun z => z = x) w w2 := by
  have a := h.mono (T := fun z => z = x ∨ w.heap.size ≤ z) (fun k _ hs => .inl hs)
  have b := k.mono (T := fun z => z = x ∨ w.heap.size ≤ z) (fun k _ hs => .inr hs)
  exact (a.trans b).mono (fun k hk hs => hs.resolve_right (by omega))
theorem SlAt.take {w : World} {p : Option Addr} {n cap : Nat} {xs : List Value} (h : SlAt w (.slice p n cap) n xs) {m : Nat} (hm : m ≤ n) : SlAt w (.slice p m cap) m (xs.take m) := by
  obtain ⟨p', cap', e, h1, h2, h3⟩ := h
  simp only [Value.slice.injEq, true_and] at e
  obtain ⟨rfl, rfl⟩ := e
  refine ⟨_, _, rfl, by omega, h2, ?_⟩
  rcases h3 with h3 | ⟨b, off, h3, h4, h5⟩
  · left; rw [h3]; simp
  · refine .inr ⟨b, off, h3, h4, fun i x hx => h5 i x ?_⟩
    rw [List.getElem?_take] at hx
    split at hx
    · exact hx
    · cases hx
theorem own_none (W : World) (base : Nat) (e : TypeId) (size : Nat) (g : Nat) (hg : W.heap.size = g) (hb : base ≤ W.heap.size) : (W.alloc (.cells #[] e)).ownsRow base e size (.slice (some ⟨g, 0, none⟩) 0 0) 0 [] := by
  subst hg
  exact ⟨by simp, .inr ⟨W.heap.size, 0, #[], rfl, hb, heap_alloc_new _ _, Nat.le_refl _, by decide, by simp, by simp⟩⟩
theorem infoU8 : (Tryz.prog.info? 5).map (fun i => (i.zero, i.size, i.bytes)) = some (some (.int .u8 0), 1, 1) := by kernel_rfl
theorem wfld2 (p : ByteArray) (a e : Int) (w : World) : (Instr.field 51 (.agg #[.string p, .int .i64 a, .int .i64 e]) 2).run Tryz.prog w = .ok (.int .i64 e) w := by kernel_rfl
theorem obox_at (w : World) (b : Nat) (vs : Array Value) (t : TypeId) (h : w.heap.size = b) : Box (w.alloc (.cells vs t)) b vs := by
  subst h; exact Box.new _ _ _
theorem box_cells {w : World} {g : Nat} {vs : Array Value} {xs : List Value} (B : Box w g vs) (e : vs.toList = xs) : CellsAt w (some ⟨g, 0, none⟩) xs :=
  .inr ⟨g, 0, rfl, B.lt, fun i x hx => by rw [Nat.zero_add, B.cells, ← Array.getElem?_toList, e]; exact hx⟩
end Go.Proofs.YtbmjnfnekmeegaaGreatDoor
