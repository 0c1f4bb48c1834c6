/- ExprAny's walk, over what the program's Line and Eval are to answer. -/
import Derived.Test.YtockkidbncpdlaaGreatDoorExprC
namespace Go.Proofs.YtockkidbncpdlaaGreatDoor
set_option linter.unusedVariables false
set_option linter.unusedSimpArgs false
open Go.RowKit
set_option maxHeartbeats 2000000 in
set_option maxRecDepth 100000 in
theorem exprAny_walk (hL : PLine) (hE : PEval) (s : ByteArray) (a : Int) (ha0 : 0 ≤ a) (ha1 : a < 256) (q : Option Addr) (capN : Nat) (names : List (ByteArray × Int)) (hcapN : names.length ≤ capN) (hn64 : ∀ x ∈ names, -9223372036854775808 ≤ x.2 ∧ x.2 ≤ 9223372036854775807) (hs : s.size ≤ 9223372036854775807) (hnl : names.length ≤ 9223372036854775807)
    (w : World) (hP : Pre w) (hn : NamesAt w q names) : Calls Tryz.prog 3 #[.string s, .int .u8 a, .slice q names.length capN] w fun e w' => e = .returned (.bool true) ∧ Keep w w' := by
  have HP := Lib.hid hP
  have HE := Lib.hid hE
  have HN := Lib.hid hn
  have CK := Lib.hid (known_any hL hE w hP)
  have H64 := Lib.hid hn64
  clear hP hE hL hn hn64
  by_cases big : 200 < s.size
  · go_enter Tryz.func3, Tryz.ntmps3
    go_wp2_with fail
    refine CK.out.mono ?_
    rintro e w1 ⟨rfl, hk1⟩
    have K1 := Lib.hid hk1
    have bigi : (200 : Int) < (s.size : Int) := by omega
    clear hk1
    go_wp2_with fail
    go_ret
    exact ⟨rfl, K1.out⟩
  · have sbi : decide ((200 : Int) < (s.size : Int)) = false := decide_eq_false (by omega)
    by_cases many : 20 < names.length
    · go_enter Tryz.func3, Tryz.ntmps3
      go_wp2_with fail
      refine CK.out.mono ?_
      rintro e w1 ⟨rfl, hk1⟩
      have K1 := Lib.hid hk1
      have mi : (20 : Int) < (names.length : Int) := by omega
      clear hk1
      go_wp2_with fail
      go_ret
      exact ⟨rfl, K1.out⟩
    · have mi : decide ((20 : Int) < (names.length : Int)) = false := decide_eq_false (by omega)
      have hlen : s.data.toList.length = s.size := by simp
      have HLEN := Lib.hid hlen
      clear hlen
      go_enter Tryz.func3, Tryz.ntmps3
      go_wp2_with fail
      refine CK.out.mono ?_
      rintro e w1 ⟨rfl, hk1⟩
      have K1 := Lib.hid hk1
      clear hk1
      go_wp2_with fail
      refine (rlex_any s (by omega) w1).mono ?_
      intro e w2 h
      unfold LexR at h
      cases hl : lexL s.data.toList 0 with
      | error ix =>
        obtain ⟨i, x⟩ := ix
        rw [hl] at h
        obtain ⟨rfl, hk⟩ := h
        have K2 := Lib.hid (K1.out.trans hk)
        have x0 : (x != 0) = true := by
          rcases lexL_bad _ _ _ _ _ (Nat.le_refl _) hl with rfl | rfl | rfl <;> rfl
        unfold wrongV
        clear hk hl
        go_wp2_with fail
        go_ret
        exact ⟨rfl, K2.out.alloc _⟩
      | ok ts =>
        rw [hl] at h
        obtain ⟨v, rfl, ho, hk2⟩ := h
        obtain ⟨p, cap, rfl, hc, hr⟩ := own_at ho
        have K2 := Lib.hid (K1.out.trans hk2)
        have R2 := Lib.hid hr
        have HC := Lib.hid hc
        have TK := Lib.hid (lexL_toks _ _ _ _ (Nat.le_refl _) hl)
        have few : ts.length ≤ 200 := by have := TK.out.2; have := HLEN.out; omega
        unfold okV wrongV
        clear ho hr hk2 hc hl
        obtain ⟨k, hk⟩ : ∃ k : Nat, a % ((ts.length : Int) + 1) = (k : Int) := ⟨(a % ((ts.length : Int) + 1)).toNat, by have := Int.emod_nonneg a (by omega : (ts.length : Int) + 1 ≠ 0); omega⟩
        have kle : k ≤ ts.length := by
          have := Int.emod_lt_of_pos a (by omega : 0 < (ts.length : Int) + 1)
          omega
        go_wp2_with fail
        rw [hk]
        have kh : (0 : Int) ≤ (k : Int) := Int.natCast_nonneg _
        clear hk
        refine (to_any p cap ts (by omega) HC.out _ (R2.out.keep ((Keep.refl _).alloc _))).mono ?_
        rintro e w3 ⟨v3, rfl, ho3, hk3⟩
        obtain ⟨p3, cap3, rfl, hc3, hr3⟩ := own_at ho3
        have K3 := Lib.hid (((Keep.refl w2).alloc _).trans hk3)
        have R3 := Lib.hid hr3
        have HC3 := Lib.hid hc3
        clear ho3 hk3 hr3 hc3
        go_wp2_with fail
        refine (HE.out p3 cap3 q capN ts names k kle (by omega) (by omega) HC3.out hcapN (fun t ht => (TK.out.1 t ht).1) H64.out w3 R3.out (HN.out.keep (K2.out.trans K3.out)) (HP.out.keep (K2.out.trans K3.out))).mono ?_
        intro e w4 hev4
        obtain ⟨hk4, hres⟩ := hev4
        have K4 := Lib.hid ((K2.out.trans K3.out).trans hk4)
        have KM := Lib.hid (K3.out.trans hk4)
        obtain ⟨V4, P4, E4, hE4, hW4⟩ : ∃ V4 P4 E4, e = .returned (.tuple #[.int .i64 V4, .int .i64 P4, E4]) ∧
            ((∃ (z : Nat), P4 = z ∧ E4 = .nilIface ∧ Ev ts names (.lev 0 k) 0 (.ok V4 z)) ∨ ∃ (z : Nat) (x : Int) (qq : Nat), V4 = 0 ∧ P4 = 0 ∧ E4 = faultP qq ∧ x ≠ 0 ∧ Ev ts names (.lev 0 k) 0 (.bad z x) ∧ faultB w4 qq tokenS z x) := by
          rcases hres with ⟨v, z, hev, hv, hz, rfl⟩ | ⟨z, x, qq, hev, hx, rfl, hf⟩
          · exact ⟨v, z, _, rfl, .inl ⟨z, rfl, rfl, hev⟩⟩
          · exact ⟨0, 0, _, rfl, .inr ⟨z, x, qq, rfl, rfl, rfl, hx, hev, hf⟩⟩
        subst hE4
        have W4 := Lib.hid hW4
        clear hres hW4 hk4
        go_wp2_with fail
        refine (ofNames_any q capN names (by omega) hcapN w4 (HN.out.keep K4.out)).mono ?_
        rintro e w5 ⟨v5, rfl, ho5, hk5⟩
        obtain ⟨p5, cap5, rfl, hc5, hr5⟩ := own_at ho5
        have K5 := Lib.hid hk5
        have R5 := Lib.hid hr5
        have HC5 := Lib.hid hc5
        clear ho5 hk5 hr5 hc5
        go_wp2_with fail
        refine (reval_any p cap p5 cap5 ts names k kle (by omega) (by omega) HC.out HC5.out (fun t ht _ => by have := (TK.out.1 t ht).1; have h1 := this.lo; have h2 := this.hi; unfold lxBig at h2; omega) w5 (R2.out.keep ((KM.out.trans K5.out))) R5.out).mono ?_
        intro e w6 hev6
        obtain ⟨hk6, hres⟩ := hev6
        obtain ⟨WV, hE6, hW6⟩ : ∃ WV, e = .returned (.tuple #[.int .i64 V4, .int .i64 P4, WV]) ∧ ErrV w6 E4 WV := by
          rcases hres with ⟨v, z, hev, hv, hz, rfl⟩ | ⟨z, x, hev, hx, rfl⟩
          · rcases W4.out with ⟨z', rfl, rfl, h4⟩ | ⟨z', x', qq, rfl, rfl, rfl, hx', h4, hf⟩
            · have := Ev.same hev h4
              cases this
              exact ⟨okV, rfl, ErrV.isOk⟩
            · have := Ev.same hev h4
              cases this
          · rcases W4.out with ⟨z', rfl, rfl, h4⟩ | ⟨z', x', qq, rfl, rfl, rfl, hx', h4, hf⟩
            · have := Ev.same hev h4
              cases this
            · have := Ev.same hev h4
              cases this
              exact ⟨wrongV tokenS z x, rfl, .inr ⟨qq, tokenS, z, x, hx, rfl, rfl, (Box.keep hf (K5.out.trans hk6))⟩⟩
        subst hE6
        have K6 := Lib.hid ((K4.out.trans K5.out).trans hk6)
        obtain ⟨a0, a1, a2, hWV⟩ : ∃ a0 a1 a2, WV = .agg #[.string a0, .int .i64 a1, .int .i64 a2] := by
          rcases hW6 with ⟨rfl, _⟩ | ⟨_, _, _, _, _, rfl, _⟩
          · exact ⟨_, _, _, rfl⟩
          · exact ⟨_, _, _, rfl⟩
        have T6 := Lib.hid (fun W (k : Keep w6 W) => tells_any E4 WV W (hW6.keep k) (HP.out.keep (K6.out.trans k)).errT)
        subst hWV
        clear hres hW6 hk6
        go_wp2_with fail
        refine (T6.out _ ((Keep.refl _).alloc _)).mono ?_
        rintro e w7 ⟨rfl, hk7⟩
        have K7 := Lib.hid ((K6.out.alloc _).trans hk7)
        clear hk7
        go_wp2_with fail
        go_ret
        exact ⟨rfl, K7.out⟩
end Go.Proofs.YtockkidbncpdlaaGreatDoor
