/- hasplaw13.whole: a text that is a constant, whole. -/
import Derived.Test.YtockkidbncpdlaaDoorExprC
import Derived.Test.YtockkidbncpdlaaDoorExprMath
namespace Go.Proofs.YtockkidbncpdlaaDoor
set_option linter.unusedVariables false
set_option linter.unusedSimpArgs false
open Go.RowKit
def WholeR (l : List UInt8) (e : Ending) : Prop := (∃ v, Whole l v ∧ InB v ∧ e = .returned (.tuple #[.int .i64 v, .bool true])) ∨ ((∀ v, ¬ Whole l v) ∧ ∃ x, InB x ∧ e = .returned (.tuple #[.int .i64 x, .bool false]))
theorem WholeR.yes {l : List UInt8} {v : Int} (h : Whole l v) (hb : InB v) : WholeR l (.returned (.tuple #[.int .i64 v, .bool true])) := .inl ⟨v, h, hb, rfl⟩
theorem WholeR.no {l : List UInt8} {x : Int} (h : ∀ v, ¬ Whole l v) (hx : InB x) : WholeR l (.returned (.tuple #[.int .i64 x, .bool false])) := .inr ⟨h, x, hx, rfl⟩
theorem WholeR.eq {l : List UInt8} {e : Ending} {z : Int} (h : WholeR l e) (hz : Whole l z) : e = .returned (.tuple #[.int .i64 z, .bool true]) := by
  rcases h with ⟨v, h1, _, rfl⟩ | ⟨h1, _⟩
  · rw [h1.same hz]
  · exact absurd hz (h1 z)
theorem WholeR.none {l : List UInt8} {e : Ending} (h : WholeR l e) (hz : ∀ v, ¬ Whole l v) : ∃ x, e = .returned (.tuple #[.int .i64 x, .bool false]) := by
  rcases h with ⟨v, h1, _, rfl⟩ | ⟨_, x, _, rfl⟩
  · exact absurd h1 (hz v)
  · exact ⟨x, rfl⟩
set_option maxHeartbeats 1000000 in
theorem whole_any (hL : PLine) (hE : PEval) (s : ByteArray) (hs : s.size ≤ 1000) (w : World) (hP : Pre w) : Calls Tryd.prog 7 #[.string s] w fun e w' => WholeR s.data.toList e ∧ Keep w w' := by
  have HP := Lib.hid hP
  have HE := Lib.hid hE
  have CL := Lib.hid (hL s w hs hP)
  have hlen : s.data.toList.length = s.size := by simp
  have HLEN := Lib.hid hlen
  clear hP hE hL hlen
  go_enter Tryd.func7, Tryd.ntmps7
  go_wp2_with fail
  refine CL.out.mono ?_
  intro e w1 h
  unfold LineP at h
  cases hl : lexL s.data.toList 0 with
  | error ix =>
    obtain ⟨i, x⟩ := ix
    rw [hl] at h
    obtain ⟨v, q, rfl, hf, hk⟩ := h
    have K1 := Lib.hid hk
    have NO : Hid (∀ v, ¬ Whole s.data.toList v) := Lib.hid (fun v ⟨ts, h1, _⟩ => by rw [hl] at h1; cases h1)
    unfold faultP
    clear hf hk hl
    go_wp2_with fail
    go_ret2
    exact ⟨WholeR.no NO.out InB.zero, K1.out⟩
  | ok ts =>
    rw [hl] at h
    obtain ⟨v, rfl, ho, hk1⟩ := h
    obtain ⟨p, cap, rfl, hc, hr⟩ := own_at ho
    have HX := Lib.hid hl
    have K1 := Lib.hid hk1
    have R1 := Lib.hid hr
    have HC := Lib.hid hc
    have TK := Lib.hid (lexL_toks _ _ _ _ (Nat.le_refl _) hl)
    have few : ts.length ≤ 1000 := by have := TK.out.2; have := HLEN.out; omega
    clear ho hr hk1 hc hl
    go_wp2_with fail
    go_loop [6] (fun i => ∃ k : Nat, k ≤ s.size ∧ i = .int .i64 (k : Int) ∧ ∀ (j : Nat) (h : j < s.size), j < k → ((s[j]'h).toNat : Int) ≠ 59) (fun i => s.size - (intOf i).toNat)
    case atStart => exact ⟨0, Nat.zero_le _, rfl, fun j _ hj => absurd hj (by omega)⟩
    case round =>
      obtain ⟨k, hk, rfl, hno⟩ := hrel
      have HN := Lib.hid hno
      clear hno
      by_cases h : k < s.size
      · rcases Bool.eq_false_or_eq_true (((s[k]'h).toNat : Int) == 59) with d | d
        · have NO : Hid (∀ v, ¬ Whole s.data.toList v) := Lib.hid (fun v ⟨_, _, h2, _⟩ => by
            have hm : s[k] ∈ s.data.toList := by
              have := drop_at s k h
              exact List.mem_of_mem_drop (i := k) (by rw [this]; exact List.mem_cons_self)
            exact h2 _ hm (beq_iff_eq.1 d))
          go_wp2_with fail
          go_ret2
          exact ⟨WholeR.no NO.out InB.zero, K1.out⟩
        · have HS : Hid (∀ (j : Nat) (h : j < s.size), j < k + 1 → ((s[j]'h).toNat : Int) ≠ 59) := Lib.hid (fun j hj hjk => by
            by_cases e : j = k
            · subst e; exact beq_eq_false_iff_ne.1 d
            · exact HN.out j hj (by omega))
          go_wp2_with fail
          go_round
          case rel => exact ⟨k + 1, h, by go_num, HS.out⟩
          case measure => simp [intOf]; omega
      · obtain rfl : k = s.size := by omega
        have H59 : Hid (∀ b ∈ s.data.toList, (b.toNat : Int) ≠ 59) := Lib.hid (fun b hb => by
          obtain ⟨j, hj, rfl⟩ := List.mem_iff_getElem.1 hb
          have hj' : j < s.size := by simpa using hj
          have := HN.out j hj' hj'
          exact this)
        go_wp2_with fail
        refine (HE.out p cap none 0 ts [] 0 (Nat.zero_le _) few (by simp) HC.out (Nat.le_refl _) (fun t ht => (TK.out.1 t ht).1) (by intro x hx; simp at hx) _ R1.out (.inl rfl) (HP.out.keep K1.out)).mono ?_
        rintro e w3 ⟨hk3, ⟨v, z, hev, hv, hz, rfl⟩ | ⟨z, x, q, hev, hx, rfl, hf⟩⟩
        · have K3 := Lib.hid (K1.out.trans hk3)
          have EV := Lib.hid hev
          have HV := Lib.hid hv
          by_cases hzl : z = ts.length
          · have W : Whole s.data.toList v := ⟨ts, HX.out, H59.out, by rw [← hzl]; exact EV.out⟩
            have HW := Lib.hid W
            subst hzl
            clear hk3 hev hv hz W
            go_wp2_with fail
            go_ret2
            exact ⟨WholeR.yes HW.out HV.out, K3.out⟩
          · have NO : Hid (∀ v, ¬ Whole s.data.toList v) := Lib.hid (fun v' ⟨ts', h1, _, h3⟩ => by
              rw [HX.out] at h1
              cases h1
              have := Ev.same EV.out h3
              cases this
              exact hzl rfl)
            have hzd : ((z : Int) == (ts.length : Int)) = false := by simp; omega
            have hzd2 : (z == ts.length) = false := by simp; omega
            clear hk3 hev hv hz hzl
            go_wp2_with fail
            go_ret2
            exact ⟨WholeR.no NO.out HV.out, K3.out⟩
        · have K3 := Lib.hid (K1.out.trans hk3)
          have NO : Hid (∀ v, ¬ Whole s.data.toList v) := Lib.hid (fun v' ⟨ts', h1, _, h3⟩ => by
            rw [HX.out] at h1
            cases h1
            have := Ev.same hev h3
            cases this)
          unfold faultP
          clear hk3 hev hx hf
          go_wp2_with fail
          go_ret2
          exact ⟨WholeR.no NO.out InB.zero, K3.out⟩
end Go.Proofs.YtockkidbncpdlaaDoor
