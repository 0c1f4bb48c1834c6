/- ExprParts's walk, over what the program's Line and Eval are to answer. -/
import Derived.Test.YtockkidbncpdlaaDoorExprW
import Derived.Test.YtockkidbncpdlaaDoorBits64
import Derived.Test.YtockkidbncpdlaaDoorEvLev
namespace Go.Proofs.YtockkidbncpdlaaDoor
set_option linter.unusedVariables false
set_option linter.unusedSimpArgs false
open Go.RowKit
theorem timesE_small {x y : Int} (hx0 : -1048576 ≤ x) (hx1 : x ≤ 1048576) (hy0 : -1048576 ≤ y) (hy1 : y ≤ 1048576) : timesE x y = some (x * y) := by
  by_cases hz : x = 0 ∨ y = 0
  · unfold timesE
    rw [if_pos hz]
    rcases hz with rfl | rfl <;> simp
  · unfold timesE lxBig
    rw [if_neg hz, if_neg]
    have hb : 0 < absI y := by unfold absI; split <;> omega
    have hb1 : absI y ≤ 1048576 := by unfold absI; split <;> omega
    have ha1 : absI x ≤ 1048576 := by unfold absI; split <;> omega
    have h1 : absI x * absI y ≤ 1048576 * 1048576 := by
      have ha0 : 0 ≤ absI x := by unfold absI; split <;> omega
      exact Int.mul_le_mul ha1 hb1 (Int.le_of_lt hb) (by decide)
    have : absI x ≤ 1099511627776 / absI y := by
      rw [Int.le_ediv_iff_mul_le hb]
      omega
    omega
theorem mul_small {x y : Int} (hx0 : -1048576 ≤ x) (hx1 : x ≤ 1048576) (hy0 : -1048576 ≤ y) (hy1 : y ≤ 1048576) : InB (x * y) := by
  have := timesE_in (timesE_small hx0 hx1 hy0 hy1)
  exact this
theorem boundE_some {n : Int} (h0 : -1099511627776 ≤ n) (h1 : n ≤ 1099511627776) : boundE n = some n := by
  unfold boundE lxBig; rw [if_neg (by omega)]
theorem parS_list (a b : ByteArray) (c : UInt8) : ((⟨#[40]⟩ : ByteArray) ++ a ++ ⟨#[41, c, 40]⟩ ++ b ++ ⟨#[41]⟩).data.toList = parT a.data.toList b.data.toList c := by
  simp [parT, ByteArray.data_append]
theorem invS_list (a : ByteArray) : ((⟨#[126, 40]⟩ : ByteArray) ++ a ++ ⟨#[41]⟩).data.toList = invT a.data.toList := by
  simp [invT, ByteArray.data_append]
theorem parS_size (a b : ByteArray) (c : UInt8) : ((⟨#[40]⟩ : ByteArray) ++ a ++ ⟨#[41, c, 40]⟩ ++ b ++ ⟨#[41]⟩).size = a.size + b.size + 5 := by
  rw [ByteArray.size_append, ByteArray.size_append, ByteArray.size_append, ByteArray.size_append]
  show 1 + a.size + 3 + b.size + 1 = _
  omega
theorem invS_size (a : ByteArray) : ((⟨#[126, 40]⟩ : ByteArray) ++ a ++ ⟨#[41]⟩).size = a.size + 3 := by
  rw [ByteArray.size_append, ByteArray.size_append]
  show 2 + a.size + 1 = _
  omega
set_option maxHeartbeats 2000000 in
set_option maxRecDepth 100000 in
theorem exprParts_walk (hL : PLine) (hE : PEval) (a b : ByteArray) (ha : a.size ≤ 9223372036854775807) (hb : b.size ≤ 9223372036854775807) (w : World) (hP : Pre w) : Calls Tryd.prog 3 #[.string a, .string b] w fun e w' => e = .returned (.bool true) ∧ Keep w w' := by
  have HP := Lib.hid hP
  have HW := Lib.hid (fun s hs w hP => whole_any hL hE s hs w hP)
  have CK := Lib.hid (known_any hL hE w hP)
  clear hP hE hL
  by_cases big : 60 < a.size
  · go_enter Tryd.func3, Tryd.ntmps3
    go_wp2_with fail
    refine CK.out.mono ?_
    rintro e w1 ⟨rfl, hk1⟩
    have K1 := Lib.hid hk1
    have bigi : (60 : Int) < (a.size : Int) := by omega
    clear hk1
    go_wp2_with fail
    go_ret
    exact ⟨rfl, K1.out⟩
  · have sbi : decide ((60 : Int) < (a.size : Int)) = false := decide_eq_false (by omega)
    by_cases many : 60 < b.size
    · go_enter Tryd.func3, Tryd.ntmps3
      go_wp2_with fail
      refine CK.out.mono ?_
      rintro e w1 ⟨rfl, hk1⟩
      have K1 := Lib.hid hk1
      have mi : (60 : Int) < (b.size : Int) := by omega
      clear hk1
      go_wp2_with fail
      go_ret
      exact ⟨rfl, K1.out⟩
    · have mi : decide ((60 : Int) < (b.size : Int)) = false := decide_eq_false (by omega)
      have as60 : a.size ≤ 60 := by omega
      have bs60 : b.size ≤ 60 := by omega
      go_enter Tryd.func3, Tryd.ntmps3
      go_wp2_with fail
      refine CK.out.mono ?_
      rintro e w1 ⟨rfl, hk1⟩
      have K1 := Lib.hid hk1
      clear hk1
      go_wp2_with fail
      refine (HW.out a (by omega) w1 (HP.out.keep K1.out)).mono ?_
      rintro e w2 ⟨hr2, hk2⟩
      have K2 := Lib.hid (K1.out.trans hk2)
      clear hk2
      obtain ⟨x, ok, hE2, hx, hok⟩ : ∃ x ok, e = .returned (.tuple #[.int .i64 x, .bool ok]) ∧ InB x ∧ (ok = true → Whole a.data.toList x) := by
        rcases hr2 with ⟨v, h1, h2, rfl⟩ | ⟨h1, v, h2, rfl⟩
        · exact ⟨v, true, rfl, h2, fun _ => h1⟩
        · exact ⟨v, false, rfl, h2, (fun h => by cases h)⟩
      subst hE2
      obtain ⟨x0, x1⟩ := hx
      have HA := Lib.hid hok
      clear hr2 hok
      go_wp2_with fail
      refine (HW.out b (by omega) w2 (HP.out.keep K2.out)).mono ?_
      rintro e w3 ⟨hr3, hk3⟩
      have K3 := Lib.hid (K2.out.trans hk3)
      clear hk3
      obtain ⟨y, is, hE3, hy, his⟩ : ∃ y is, e = .returned (.tuple #[.int .i64 y, .bool is]) ∧ InB y ∧ (is = true → Whole b.data.toList y) := by
        rcases hr3 with ⟨v, h1, h2, rfl⟩ | ⟨h1, v, h2, rfl⟩
        · exact ⟨v, true, rfl, h2, fun _ => h1⟩
        · exact ⟨v, false, rfl, h2, (fun h => by cases h)⟩
      subst hE3
      obtain ⟨y0, y1⟩ := hy
      have HB := Lib.hid his
      clear hr3 his
      cases ok
      · go_wp2_with fail
        go_ret
        exact ⟨rfl, K3.out⟩
      · cases is
        · go_wp2_with fail
          go_ret
          exact ⟨rfl, K3.out⟩
        · by_cases xb : 1048576 < x
          · go_wp2_with fail
            go_ret
            exact ⟨rfl, K3.out⟩
          · have xb' : decide (1048576 < x) = false := decide_eq_false xb
            by_cases xc : x < -1048576
            · go_wp2_with fail
              go_ret
              exact ⟨rfl, K3.out⟩
            · have xc' : decide (x < -1048576) = false := decide_eq_false xc
              by_cases yb : 1048576 < y
              · go_wp2_with fail
                go_ret
                exact ⟨rfl, K3.out⟩
              · have yb' : decide (1048576 < y) = false := decide_eq_false yb
                by_cases yc : y < -1048576
                · go_wp2_with fail
                  go_ret
                  exact ⟨rfl, K3.out⟩
                · have yc' : decide (y < -1048576) = false := decide_eq_false yc
                  have hx2 : -1048576 ≤ x := by omega
                  have hx3 : x ≤ 1048576 := by omega
                  have hy2 : -1048576 ≤ y := by omega
                  have hy3 : y ≤ 1048576 := by omega
                  have C := Lib.hid (fun (c : UInt8) W (h : Pre W) => (HW.out ((⟨#[40]⟩ : ByteArray) ++ a ++ ⟨#[41, c, 40]⟩ ++ b ++ ⟨#[41]⟩) (by rw [parS_size]; omega) W h))
                  have CI := Lib.hid (fun W (h : Pre W) => (HW.out ((⟨#[126, 40]⟩ : ByteArray) ++ a ++ ⟨#[41]⟩) (by rw [invS_size]; omega) W h))
                  have WA := HA.out rfl
                  have WB := HB.out rfl
                  have j43 : joinE (strL [43]) x y = some (x + y) := by
                    have : joinE sAdd x y = boundE (x + y) := by unfold joinE; rw [if_neg (by decide), if_neg (by decide), if_neg (by decide), if_pos rfl]
                    exact this.trans (boundE_some (by omega) (by omega))
                  have j45 : joinE (strL [45]) x y = some (x - y) := by
                    have : joinE sSub x y = boundE (x - y) := by unfold joinE; rw [if_neg (by decide), if_neg (by decide), if_neg (by decide), if_neg (by decide), if_pos rfl]
                    exact this.trans (boundE_some (by omega) (by omega))
                  have j42 : joinE (strL [42]) x y = some (x * y) := by
                    have : joinE sMul x y = timesE x y := by unfold joinE; rw [if_neg (by decide), if_neg (by decide), if_neg (by decide), if_neg (by decide), if_neg (by decide), if_pos rfl]
                    exact this.trans (timesE_small hx2 hx3 hy2 hy3)
                  have j124 : joinE (strL [124]) x y = some (bits .or .i64 x y) := by
                    have : joinE sBar x y = boundE (bits .or .i64 x y) := by unfold joinE; rw [if_pos rfl]
                    have hb := bits_small (n := 21) (by decide) .or x y (.inr (.inl rfl)) (by omega) (by omega) (by omega) (by omega)
                    exact this.trans (boundE_some (by omega) (by omega))
                  have I := inv_all (z := -x - 1) WA (by rw [show 0 - x - 1 = -x - 1 by omega]; exact boundE_some (by omega) (by omega))
                  have D := parts_all WA WB
                  have hm := mul_small hx2 hx3 hy2 hy3
                  obtain ⟨m0, m1⟩ := hm
                  have hmw : IntKind.i64.wrap (x * y) = x * y := by rw [IntKind.wrap_i64]; omega
                  clear WA WB
                  have I2 : ∃ T tb, (∀ W, Pre W → Calls Tryd.prog 7 #[.string ((⟨#[126, 40]⟩ : ByteArray) ++ a ++ ⟨#[41]⟩)] W fun e w' => (∃ t, e = .returned (.tuple #[.int .i64 t, .bool tb]) ∧ (tb = true → t = T)) ∧ Keep W w') ∧ T = -x - 1 := by
                    rcases I with I | I
                    · refine ⟨-x - 1, true, fun W h => (CI.out W h).mono fun e w' ⟨h1, h2⟩ => ?_, rfl⟩
                      rw [invS_list] at h1
                      exact ⟨⟨_, h1.eq I, fun _ => rfl⟩, h2⟩
                    · refine ⟨-x - 1, false, fun W h => (CI.out W h).mono fun e w' ⟨h1, h2⟩ => ?_, rfl⟩
                      rw [invS_list] at h1
                      obtain ⟨t, ht⟩ := h1.none I
                      exact ⟨⟨t, ht, (fun h => by cases h)⟩, h2⟩
                  obtain ⟨T, tb, CT, hT⟩ := I2
                  have CT := Lib.hid CT
                  have HT := Lib.hid hT
                  clear I hT
                  rcases D with D | D
                  · have R43 := Lib.hid (fun W (h : Pre W) => (C.out 43 W h).mono (R' := fun e w' => e = .returned (.tuple #[.int .i64 (x + y), .bool true]) ∧ Keep W w') fun e w' ⟨h1, h2⟩ => ⟨by rw [parS_list] at h1; exact h1.eq (D 43 4 _ sign43 j43), h2⟩)
                    have R45 := Lib.hid (fun W (h : Pre W) => (C.out 45 W h).mono (R' := fun e w' => e = .returned (.tuple #[.int .i64 (x - y), .bool true]) ∧ Keep W w') fun e w' ⟨h1, h2⟩ => ⟨by rw [parS_list] at h1; exact h1.eq (D 45 4 _ sign45 j45), h2⟩)
                    have R42 := Lib.hid (fun W (h : Pre W) => (C.out 42 W h).mono (R' := fun e w' => e = .returned (.tuple #[.int .i64 (x * y), .bool true]) ∧ Keep W w') fun e w' ⟨h1, h2⟩ => ⟨by rw [parS_list] at h1; exact h1.eq (D 42 5 _ sign42 j42), h2⟩)
                    have R124 := Lib.hid (fun W (h : Pre W) => (C.out 124 W h).mono (R' := fun e w' => e = .returned (.tuple #[.int .i64 (bits .or .i64 x y), .bool true]) ∧ Keep W w') fun e w' ⟨h1, h2⟩ => ⟨by rw [parS_list] at h1; exact h1.eq (D 124 0 _ sign124 j124), h2⟩)
                    clear j43 j45 j42 j124 D C CI
                    go_wp2_with fail
                    refine (R43.out _ (HP.out.keep K3.out)).mono ?_
                    rintro e w4 ⟨rfl, hk4⟩
                    have K4 := Lib.hid (K3.out.trans hk4)
                    clear hk4
                    go_wp2_with fail
                    refine (R45.out _ (HP.out.keep K4.out)).mono ?_
                    rintro e w5 ⟨rfl, hk5⟩
                    have K5 := Lib.hid (K4.out.trans hk5)
                    clear hk5
                    go_wp2_with fail
                    refine (R42.out _ (HP.out.keep K5.out)).mono ?_
                    rintro e w6 ⟨rfl, hk6⟩
                    have K6 := Lib.hid (K5.out.trans hk6)
                    clear hk6
                    go_wp2_with fail
                    refine (R124.out _ (HP.out.keep K6.out)).mono ?_
                    rintro e w7 ⟨rfl, hk7⟩
                    have K7 := Lib.hid (K6.out.trans hk7)
                    clear hk7
                    go_wp2_with fail
                    refine (CT.out _ (HP.out.keep K7.out)).mono ?_
                    rintro e w8 ⟨⟨t, rfl, ht⟩, hk8⟩
                    have K8 := Lib.hid (K7.out.trans hk8)
                    clear hk8
                    cases tb
                    · clear ht
                      go_wp2_with fail
                      go_ret
                      exact ⟨rfl, K8.out⟩
                    · obtain rfl : t = -x - 1 := (ht rfl).trans HT.out
                      clear ht
                      go_wp2_with fail
                      go_ret
                      exact ⟨rfl, K8.out⟩
                  · have RN := Lib.hid (fun (c : UInt8) k (hc : SignOf c k) W (h : Pre W) => (C.out c W h).mono (R' := fun e w' => (∃ t, e = .returned (.tuple #[.int .i64 t, .bool false])) ∧ Keep W w') fun e w' ⟨h1, h2⟩ => ⟨by rw [parS_list] at h1; exact h1.none (D c k hc), h2⟩)
                    have R43 := Lib.hid (RN.out 43 4 sign43)
                    have R45 := Lib.hid (RN.out 45 4 sign45)
                    have R42 := Lib.hid (RN.out 42 5 sign42)
                    have R124 := Lib.hid (RN.out 124 0 sign124)
                    clear j43 j45 j42 j124 D C CI RN
                    go_wp2_with fail
                    refine (R43.out _ (HP.out.keep K3.out)).mono ?_
                    rintro e w4 ⟨⟨t1, rfl⟩, hk4⟩
                    have K4 := Lib.hid (K3.out.trans hk4)
                    clear hk4
                    go_wp2_with fail
                    refine (R45.out _ (HP.out.keep K4.out)).mono ?_
                    rintro e w5 ⟨⟨t2, rfl⟩, hk5⟩
                    have K5 := Lib.hid (K4.out.trans hk5)
                    clear hk5
                    go_wp2_with fail
                    refine (R42.out _ (HP.out.keep K5.out)).mono ?_
                    rintro e w6 ⟨⟨t3, rfl⟩, hk6⟩
                    have K6 := Lib.hid (K5.out.trans hk6)
                    clear hk6
                    go_wp2_with fail
                    refine (R124.out _ (HP.out.keep K6.out)).mono ?_
                    rintro e w7 ⟨⟨t4, rfl⟩, hk7⟩
                    have K7 := Lib.hid (K6.out.trans hk7)
                    clear hk7
                    go_wp2_with fail
                    refine (CT.out _ (HP.out.keep K7.out)).mono ?_
                    rintro e w8 ⟨⟨t, rfl, ht⟩, hk8⟩
                    have K8 := Lib.hid (K7.out.trans hk8)
                    clear hk8
                    cases tb
                    · clear ht
                      go_wp2_with fail
                      go_ret
                      exact ⟨rfl, K8.out⟩
                    · obtain rfl : t = -x - 1 := (ht rfl).trans HT.out
                      clear ht
                      go_wp2_with fail
                      go_ret
                      exact ⟨rfl, K8.out⟩
end Go.Proofs.YtockkidbncpdlaaDoor
