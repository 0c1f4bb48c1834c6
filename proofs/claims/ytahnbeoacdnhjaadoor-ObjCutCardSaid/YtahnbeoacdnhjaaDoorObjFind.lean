/- The reference's Find, Most. -/
import Derived.Test.YtahnbeoacdnhjaaDoorObjGood
namespace Go.Proofs.YtahnbeoacdnhjaaDoor
set_option linter.unusedVariables false
set_option linter.unusedSimpArgs false
open Go.RowKit
def objVal (o : ObjV) (vc vd vs vr : Value) : Value := .agg #[.string o.name, vc, vd, vs, vr]
def symVal (s : SymV) : Value := .agg #[.string s.name, .bool s.data, .int .u32 s.off, .bool s.exp]
def noSym : SymV := ⟨⟨#[]⟩, false, 0, false⟩
theorem ostr_beq (a b : ByteArray) : (a.toList == b.toList) = decide (a = b) := by
  rw [ByteArray.toList_eq, ByteArray.toList_eq]
  by_cases h : a = b
  · subst h; simp
  · rw [decide_eq_false h, beq_eq_false_iff_ne]
    exact fun e => h (ByteArray.ext (Array.ext' e))
theorem findS_at (n : ByteArray) (s : SymV) : ∀ (l : List SymV) (k : Nat), l[k]? = some s → s.name = n → (∀ (j : Nat) (x : SymV), j < k → l[j]? = some x → x.name ≠ n) → findS l n = some s
  | [], k, h, _, _ => by simp at h
  | x :: l, 0, h, hs, _ => by
    simp at h
    subst h
    simp [findS, hs]
  | x :: l, k + 1, h, hs, hn => by
    have h0 := hn 0 x (by omega) rfl
    unfold findS
    rw [if_neg h0]
    exact findS_at n s l k (by simpa using h) hs fun j y hj hy => hn (j + 1) y (by omega) (by simpa using hy)
theorem findS_no (n : ByteArray) : ∀ (l : List SymV), (∀ (j : Nat) (x : SymV), l[j]? = some x → x.name ≠ n) → findS l n = none
  | [], _ => rfl
  | x :: l, hn => by
    unfold findS
    rw [if_neg (hn 0 x rfl)]
    exact findS_no n l fun j y hy => hn (j + 1) y (by simpa using hy)
/-- What Find answers. -/
def FindR (l : List SymV) (n : ByteArray) (e : Ending) : Prop := match findS l n with
  | some s => e = .returned (.tuple #[symVal s, .bool true])
  | none => e = .returned (.tuple #[symVal noSym, .bool false])
/-- The symbols as a slice says them: none, or cells at a place. -/
theorem ObjAt.symsAt {w : World} {o : ObjV} {vc vd vs vr : Value} (h : ObjAt w o vc vd vs vr) : ∃ p cap, vs = .slice p o.syms.length cap ∧ o.syms.length ≤ cap ∧ (o.syms = [] ∨ ∃ b off, p = some ⟨b, off, none⟩ ∧ b < w.heap.size ∧ ∀ (i : Nat) (s : SymV), o.syms[i]? = some s →
    w.cell? ⟨b, off + i * 4, none⟩ = some (.string s.name) ∧ w.cell? ⟨b, off + i * 4 + 1, none⟩ = some (.bool s.data) ∧ w.cell? ⟨b, off + i * 4 + 2, none⟩ = some (.int .u32 s.off) ∧ w.cell? ⟨b, off + i * 4 + 3, none⟩ = some (.bool s.exp)) := by
  by_cases h0 : o.syms = []
  · obtain ⟨p, cap, h1, h2, _⟩ := h.syms
    exact ⟨p, cap, h1, h2, .inl h0⟩
  · obtain ⟨s, hs⟩ : ∃ s, o.syms[0]? = some s := by
      cases hl : o.syms with
      | nil => exact absurd hl h0
      | cons a l => exact ⟨a, rfl⟩
    obtain ⟨b, off, cap, h1, h2, h3, _⟩ := h.sym hs
    refine ⟨_, cap, h1, h2, .inr ⟨b, off, rfl, h3, fun i t ht => ?_⟩⟩
    obtain ⟨b', off', cap', h1', _, _, c⟩ := h.sym ht
    rw [h1] at h1'
    simp only [Value.slice.injEq, Option.some.injEq, Addr.mk.injEq, and_true, true_and] at h1'
    obtain ⟨⟨rfl, rfl⟩, _⟩ := h1'
    exact c
theorem ObjAt.relsAt {w : World} {o : ObjV} {vc vd vs vr : Value} (h : ObjAt w o vc vd vs vr) : ∃ p cap, vr = .slice p o.rels.length cap ∧ o.rels.length ≤ cap ∧ (o.rels = [] ∨ ∃ b off, p = some ⟨b, off, none⟩ ∧ b < w.heap.size ∧ ∀ (i : Nat) (r : RelV), o.rels[i]? = some r →
    w.cell? ⟨b, off + i * 5, none⟩ = some (.int .i64 r.kind) ∧ w.cell? ⟨b, off + i * 5 + 1, none⟩ = some (.int .u32 r.off) ∧ w.cell? ⟨b, off + i * 5 + 2, none⟩ = some (.string r.comp) ∧ w.cell? ⟨b, off + i * 5 + 3, none⟩ = some (.string r.name) ∧ w.cell? ⟨b, off + i * 5 + 4, none⟩ = some (.int .u16 r.perm)) := by
  by_cases h0 : o.rels = []
  · obtain ⟨p, cap, h1, h2, _⟩ := h.rels
    exact ⟨p, cap, h1, h2, .inl h0⟩
  · obtain ⟨s, hs⟩ : ∃ s, o.rels[0]? = some s := by
      cases hl : o.rels with
      | nil => exact absurd hl h0
      | cons a l => exact ⟨a, rfl⟩
    obtain ⟨b, off, cap, h1, h2, h3, _⟩ := h.rel hs
    refine ⟨_, cap, h1, h2, .inr ⟨b, off, rfl, h3, fun i t ht => ?_⟩⟩
    obtain ⟨b', off', cap', h1', _, _, c⟩ := h.rel ht
    rw [h1] at h1'
    simp only [Value.slice.injEq, Option.some.injEq, Addr.mk.injEq, and_true, true_and] at h1'
    obtain ⟨⟨rfl, rfl⟩, _⟩ := h1'
    exact c
set_option maxHeartbeats 2000000 in
set_option maxRecDepth 100000 in
theorem rfind_any (o : ObjV) (vc vd vs vr : Value) (n : ByteArray) (w : World) (h : ObjAt w o vc vd vs vr) (few : o.syms.length ≤ 1000000) : Calls Tryd.prog 39 #[objVal o vc vd vs vr, .string n] w fun e w' => FindR o.syms n e ∧ Keep w w' := by
  obtain ⟨p, cap, rfl, hcap, hx⟩ := h.symsAt
  unfold objVal
  clear h
  have K0 : Hid (Keep w ((w.alloc (.cells #[.string o.name, vc, vd, .slice p o.syms.length cap, vr] 36)).alloc (.cells #[.string ⟨#[]⟩, .bool false, .int .u32 0, .bool false] 58))) := Lib.hid (((Keep.refl _).alloc _).alloc _)
  have R0 : Hid (Box ((w.alloc (.cells #[.string o.name, vc, vd, .slice p o.syms.length cap, vr] 36)).alloc (.cells #[.string ⟨#[]⟩, .bool false, .int .u32 0, .bool false] 58)) (w.heap.size + 1) #[.string ⟨#[]⟩, .bool false, .int .u32 0, .bool false]) := Lib.hid (Box.new1 _ _ _ _)
  have r0 := R0.out.cells
  have rf := R0.out.thawed
  rcases hx with hnil | ⟨b, off, rfl, hlt, hx⟩
  · have HN := Lib.hid hnil
    have z : ((o.syms.length : Nat) : Int) = 0 := by rw [hnil]; rfl
    clear hnil
    go_enter Tryd.func39, Tryd.ntmps39
    go_wp2_with fail
    go_loop [6] (fun i => i = .int .i64 0) (fun i => 0)
    case atStart => exact rfl
    case round =>
      obtain rfl := hrel
      go_wp2_with fail
      refine bodyPost_ret (v := .tuple #[symVal noSym, .bool false]) (by simp [results, Tryd.results39, go_sem, r0, symVal, noSym]; done) rfl ⟨by unfold FindR; rw [HN.out]; rfl, ?_⟩
      repeat (with_reducible refine Keep.setAt ?_ ?_ _; · first | omega | (simp; done) | (simp; omega))
      first | exact K0.out | exact ((Keep.refl _).alloc _).alloc _
  · have HX : Hid (∀ (i : Nat) (s : SymV), o.syms[i]? = some s → _) := Lib.hid (fun i s hs => And.intro (K0.out.cellOf (hx i s hs).1) (And.intro (K0.out.cellOf (hx i s hs).2.1) (And.intro (K0.out.cellOf (hx i s hs).2.2.1) (K0.out.cellOf (hx i s hs).2.2.2))))
    clear hx
    go_enter Tryd.func39, Tryd.ntmps39
    go_wp2_with fail
    go_loop [6] (fun i => ∃ k : Nat, k ≤ o.syms.length ∧ i = .int .i64 (k : Int) ∧ ∀ (j : Nat) (x : SymV), j < k → o.syms[j]? = some x → x.name ≠ n) (fun i => o.syms.length - (intOf i).toNat)
    case atStart => exact ⟨0, Nat.zero_le _, rfl, fun j x hj => absurd hj (by omega)⟩
    case round =>
      obtain ⟨k, hk, rfl, hno⟩ := hrel
      have HN := Lib.hid hno
      clear hno
      by_cases h : k < o.syms.length
      · obtain ⟨x, hx⟩ : ∃ x, o.syms[k]? = some x := ⟨_, List.getElem?_eq_getElem h⟩
        have HK := Lib.hid hx
        have hki : (k : Int) < (o.syms.length : Int) := by omega
        obtain ⟨n0, n1, n2, n3⟩ := HX.out k x hx
        clear hx
        rcases Bool.eq_false_or_eq_true (x.name.toList == n.toList) with d | d
        · have e : x.name = n := by
            rw [ostr_beq] at d
            exact of_decide_eq_true d
          have HF := Lib.hid (findS_at n x _ k HK.out e HN.out)
          clear e
          go_wp2_with fail
          refine bodyPost_ret (v := .tuple #[symVal x, .bool true]) (by simp [results, Tryd.results39, go_sem, r0, symVal]; done) rfl ⟨by unfold FindR; rw [HF.out], ?_⟩
          repeat (with_reducible refine Keep.setAt ?_ ?_ _; · first | omega | (simp; done) | (simp; omega))
          first | exact K0.out | exact ((Keep.refl _).alloc _).alloc _
        · have HS2 : Hid (∀ (j : Nat) (y : SymV), j < k + 1 → o.syms[j]? = some y → y.name ≠ n) := Lib.hid (fun j y hj hy => by
            by_cases e : j = k
            · subst e
              rw [HK.out] at hy
              cases hy
              intro hc
              rw [ostr_beq, hc] at d
              simp at d
            · exact HN.out j y (by omega) hy)
          go_wp2_with fail
          go_round
          case rel => exact ⟨k + 1, h, by go_num, HS2.out⟩
          case measure => simp [intOf]; omega
      · obtain rfl : k = o.syms.length := by omega
        have HF := Lib.hid (findS_no n o.syms (fun j x hj => HN.out j x (List.getElem?_eq_some_iff.1 hj).1 hj))
        go_wp2_with fail
        refine bodyPost_ret (v := .tuple #[symVal noSym, .bool false]) (by simp [results, Tryd.results39, go_sem, r0, symVal, noSym]; done) rfl ⟨by unfold FindR; rw [HF.out], ?_⟩
        repeat (with_reducible refine Keep.setAt ?_ ?_ _; · first | omega | (simp; done) | (simp; omega))
        first | exact K0.out | exact ((Keep.refl _).alloc _).alloc _
theorem rmost_any (d : Bool) (w : World) : Calls Tryd.prog 40 #[.bool d] w fun e w' => e = .returned (.int .u16 (mostP d)) ∧ w = w' := by
  cases d
  · go_enter Tryd.func40, Tryd.ntmps40
    go_wp2_with fail
    go_ret
    exact ⟨rfl, rfl⟩
  · go_enter Tryd.func40, Tryd.ntmps40
    go_wp2_with fail
    go_ret
    exact ⟨rfl, rfl⟩
end Go.Proofs.YtahnbeoacdnhjaaDoor
