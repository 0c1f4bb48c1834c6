/- The reference's level: a chain of signs, given what is read at the stronger level. -/
import Derived.Test.YtockkidbncpdlaaGreatDoorEvUn
namespace Go.Proofs.YtockkidbncpdlaaGreatDoor
set_option linter.unusedVariables false
set_option linter.unusedSimpArgs false
open Go.RowKit
def atOf (b : Nat) (w : World) : Nat := match w.cell? ⟨b, 1, none⟩ with
  | some (.int _ a) => a.toNat
  | _ => 0
theorem Rdr.Ok.atOf {r : Rdr} {w : World} {p : Nat} (h : r.Ok w p) : atOf r.b w = p := by
  unfold Go.Proofs.YtockkidbncpdlaaGreatDoor.atOf
  rw [Box.cells h]
  rfl
/-- What is left of a chain. -/
def ChM (r : Rdr) (v : Value) (w : World) : Nat := match v with
  | .string s => if s.size = 0 then 0 else r.toks.length + 1 - atOf r.b w
  | _ => 0
theorem ChM_end (r : Rdr) (w : World) : ChM r (.string ⟨#[]⟩) w = 0 := rfl
theorem lvS_in {k : Nat} {s : ByteArray} (h : inS (lvS k) s = true) : s = sBar ∨ s = sHat ∨ s = sAmp ∨ s = sShl ∨ s = sShr ∨ s = sAdd ∨ s = sSub ∨ s = sMul := by
  match k, h with
  | 0, h => simp [lvS, inS] at h; exact .inl h.symm
  | 1, h => simp [lvS, inS] at h; exact .inr (.inl h.symm)
  | 2, h => simp [lvS, inS] at h; exact .inr (.inr (.inl h.symm))
  | 3, h =>
    simp [lvS, inS] at h
    rcases h with h | h
    · exact .inr (.inr (.inr (.inl h.symm)))
    · exact .inr (.inr (.inr (.inr (.inl h.symm))))
  | 4, h =>
    simp [lvS, inS] at h
    rcases h with h | h
    · exact .inr (.inr (.inr (.inr (.inr (.inl h.symm)))))
    · exact .inr (.inr (.inr (.inr (.inr (.inr (.inl h.symm))))))
  | 5, h => simp [lvS, inS] at h; exact .inr (.inr (.inr (.inr (.inr (.inr (.inr h.symm))))))
  | (n + 6), h => simp [lvS, inS] at h
theorem sign_size {s : ByteArray} (h : s = sBar ∨ s = sHat ∨ s = sAmp ∨ s = sShl ∨ s = sShr ∨ s = sAdd ∨ s = sSub ∨ s = sMul) : 0 < s.size := by
  rcases h with rfl | rfl | rfl | rfl | rfl | rfl | rfl | rfl <;> decide
theorem ediv_pow_in {a : Int} (h : InB a) (n : Nat) : InB (a / 2 ^ n) := by
  have p : (0 : Int) < 2 ^ n := Int.pow_pos (by decide)
  obtain ⟨h0, h1⟩ := h
  have e := Int.emod_add_mul_ediv a (2 ^ n)
  have m0 := Int.emod_nonneg a (Int.ne_of_gt p)
  constructor
  · by_cases hn : 0 ≤ a
    · have := Int.ediv_nonneg hn (Int.le_of_lt p); omega
    · have : a ≤ a / 2 ^ n := by
        rw [Int.le_ediv_iff_mul_le p]
        have : a * 2 ^ n ≤ a * 1 := Int.mul_le_mul_of_nonpos_left (by omega) (by omega)
        omega
      omega
  · by_cases hn : 0 ≤ a
    · have := Int.ediv_le_self (2 ^ n) hn; omega
    · have := Int.ediv_neg_of_neg_of_pos (by omega : a < 0) p; omega
theorem timesE_in {a b x : Int} (h : timesE a b = some x) : InB x := by
  unfold timesE at h
  split at h
  · cases h; exact InB.zero
  · rename_i hz
    split at h
    · cases h
    · rename_i ho
      cases h
      have hb : 0 < absI b := by unfold absI; split <;> omega
      have ha : 0 < absI a := by unfold absI; split <;> omega
      have := pos_mul ha hb ho
      have e : absI a * absI b = a * b ∨ absI a * absI b = -(a * b) := by
        unfold absI
        split <;> split
        · left; rw [Int.zero_sub, Int.zero_sub, Int.neg_mul_neg]
        · right; rw [Int.zero_sub, Int.neg_mul]
        · right; rw [Int.zero_sub, Int.mul_neg]
        · left; rfl
      unfold InB
      rcases e with e | e <;> omega
theorem joinE_in {s : ByteArray} {a b x : Int} (ha : InB a) (h : joinE s a b = some x) : InB x := by
  unfold joinE at h
  split at h
  · exact (boundE_in h).2
  · split at h
    · exact (boundE_in h).2
    · split at h
      · exact (boundE_in h).2
      · split at h
        · exact (boundE_in h).2
        · split at h
          · exact (boundE_in h).2
          · split at h
            · exact timesE_in h
            · split at h
              · cases h
              · split at h
                · cases h; exact ediv_pow_in ha _
                · exact timesE_in h
theorem rlevel_top (r : Rdr) (at_ d : Nat) (w : World) (hr : r.In w) (ho : r.Ok w at_)
    (IH : ∀ w', r.In w' → r.Ok w' at_ → Calls Tryz.prog 30 #[.pointer (some ⟨r.b, 0, none⟩), .int .i64 d] w' (EvPost r (.un at_) d w')) :
    Calls Tryz.prog 14 #[.pointer (some ⟨r.b, 0, none⟩), .int .i64 6, .int .i64 d] w (EvPost r (.lev 6 at_) d w) := by
  have HR := Lib.hid hr
  have HO := Lib.hid ho
  clear hr ho
  go_enter Tryz.func14, Tryz.ntmps14
  go_wp2_with fail
  refine (rlevels_any _).mono ?_
  rintro e w1 ⟨g, rfl, -, -, hk1⟩
  have CU := Lib.hid (IH w1 (HR.out.keep hk1) (Box.keep HO.out hk1))
  have K1 := Lib.hid hk1
  clear hk1
  go_wp2_with fail
  refine CU.out.mono ?_
  rintro e w3 ⟨hk3, ⟨n, p, hev, rfl, hn, hp1, hp2, ho3⟩ | ⟨p, x, v, hev, rfl, hv, hb3⟩⟩
  · have H := Lib.hid (EvPost.ok (r := r) (w := w) (m := .lev 6 at_) (d := d) (w' := w3) (.top hev) hn hp1 hp2 ((K1.out.but _).trans hk3) ho3)
    clear hk3 hev hn hp1 hp2 ho3
    go_wp2_with fail
    go_ret
    exact H.out
  · have H := Lib.hid (EvPost.bad (r := r) (w := w) (m := .lev 6 at_) (d := d) (w' := w3) (.top hev) hv ((K1.out.but _).trans hk3) hb3)
    clear hk3 hev hv hb3
    go_wp2_with fail
    go_ret
    exact H.out
/-- What holds at each round of a chain. -/
def ChRel (r : Rdr) (k at_ d : Nat) (w : World) (lv v8 v9 : Value) (wr : World) : Prop :=
  KeepBut (fun z => z = r.b) w wr ∧ LvIn wr lv ∧
  ((∃ (n : Int) (p : Nat), v8 = .int .i64 n ∧ InB n ∧ at_ ≤ p ∧ p ≤ r.toks.length ∧ v9 = .string ((signAt r.toks p (lvS k)).getD ⟨#[]⟩) ∧ r.Ok wr p ∧ ∀ res, Ev r.toks r.names (.chain k n p) d res → Ev r.toks r.names (.lev k at_) d res) ∨
   (∃ (v : Int) (p : Nat) (e : Int), v8 = .int .i64 v ∧ InB v ∧ v9 = .string ⟨#[]⟩ ∧ r.Bad wr p e ∧ Ev r.toks r.names (.lev k at_) d (.bad p e)))
set_option maxHeartbeats 2000000 in
set_option maxRecDepth 100000 in
theorem rlevel_low (r : Rdr) (k at_ d : Nat) (w : World) (hk : k < 6) (hr : r.In w) (ho : r.Ok w at_) (ha : at_ ≤ r.toks.length)
    (IH : ∀ (a : Nat) w', at_ ≤ a → a ≤ r.toks.length → r.In w' → r.Ok w' a → Calls Tryz.prog 14 #[.pointer (some ⟨r.b, 0, none⟩), .int .i64 ((k : Int) + 1), .int .i64 d] w' (EvPost r (.lev (k + 1) a) d w')) :
    Calls Tryz.prog 14 #[.pointer (some ⟨r.b, 0, none⟩), .int .i64 k, .int .i64 d] w (EvPost r (.lev k at_) d w) := by
  have HR := Lib.hid hr
  have HO := Lib.hid ho
  have few := hr.few
  have bl : r.b < w.heap.size := Box.lt ho
  have kn : ((k : Int) == 6) = false := by simp; omega
  have HIH := Lib.hid IH
  clear hr ho IH
  go_enter Tryz.func14, Tryz.ntmps14
  go_wp2_with fail
  refine (rlevels_any _).mono ?_
  rintro e w1 ⟨g, rfl, hgs, hlv, hk1⟩
  have CU := Lib.hid (HIH.out at_ w1 (Nat.le_refl _) ha (HR.out.keep hk1) (Box.keep HO.out hk1))
  have K1 := Lib.hid hk1
  have L1 := Lib.hid hlv
  have GB : Hid (∀ g', Value.slice (some ⟨g, 0, none⟩) 6 6 = .slice (some ⟨g', 0, none⟩) 6 6 → r.b + 6 < g') := Lib.hid (fun g' h => by cases h; omega)
  have k1 : (k : Int) < 6 := by omega
  clear hk1 hlv hgs bl
  go_wp2_with fail
  refine CU.out.mono ?_
  rintro e w2 ⟨hk2, ⟨n, p, hev, rfl, hn, hp1, hp2, ho2⟩ | ⟨p, x, v, hev, rfl, hv, hb2⟩⟩
  · have K2 := Lib.hid ((K1.out.but (fun z => z = r.b)).trans hk2)
    have l2 := L1.out.but hk2 GB.out
    have L2 := Lib.hid l2
    obtain ⟨g', h', hg', hh', hl'⟩ := l2
    simp only [Value.slice.injEq, Option.some.injEq, Addr.mk.injEq, and_true] at hg'
    subst hg'
    obtain ⟨cl, bx⟩ := hl' k hk
    have CS := Lib.hid (rsign_ok r p (h' + k) (lvS k) w2 (HR.out.but K2.out) ho2 bx (by match k, hk with | 0, _ => decide | 1, _ => decide | 2, _ => decide | 3, _ => decide | 4, _ => decide | 5, _ => decide))
    have EV := Lib.hid hev
    have O2 := Lib.hid ho2
    have PB := Lib.hid (And.intro hn (And.intro hp1 hp2))
    clear hk2 hev hn hp1 hp2 ho2 bx hl' hh'
    go_wp2_with fail
    refine CS.out.mono ?_
    rintro e w3 ⟨rfl, hk3⟩
    have R3 : ChRel r k at_ d w (.slice (some ⟨g, 0, none⟩) 6 6) (.int .i64 n) (.string ((signAt r.toks p (lvS k)).getD ⟨#[]⟩)) w3 :=
      ⟨K2.out.trans (hk3.but _), L2.out.but (hk3.but _) GB.out, .inl ⟨n, p, rfl, PB.out.1, PB.out.2.1, PB.out.2.2, rfl, Box.keep O2.out hk3, fun res h => .levOk hk EV.out h⟩⟩
    have H6 := Lib.hid R3
    obtain ⟨S0, hS0⟩ : ∃ S0, S0 = (signAt r.toks p (lvS k)).getD ⟨#[]⟩ := ⟨_, rfl⟩
    rw [← hS0] at H6 ⊢
    clear R3 hk3 hS0 cl CU CS EV O2 PB
    go_wp2_with fail
    go_loopw [8, 9] (fun v8 v9 wr => ChRel r k at_ d w (.slice (some ⟨g, 0, none⟩) 6 6) v8 v9 wr) (fun _ v9 wr => ChM r v9 wr)
    case atStart => exact H6.out
    case round =>
      obtain ⟨hkb, hlv, ⟨n, p, rfl, hn, hp1, hp2, rfl, ho, hc⟩ | ⟨v, p, x, rfl, hv, rfl, hb, hev⟩⟩ := hrel
      · have KX := Lib.hid hkb
        have LX := Lib.hid hlv
        have VX := Lib.hid hn
        have PX := Lib.hid (And.intro hp1 hp2)
        have OX := Lib.hid ho
        have CX := Lib.hid hc
        clear hlv hp1 hc
        cases hs : signAt r.toks p (lvS k) with
        | none =>
          have SX := Lib.hid hs
          dsimp only [Option.getD_none]
          clear hs hkb hn hp2 ho
          go_wp2_with fail
          go_ret
          exact EvPost.ok (CX.out _ (.stop SX.out)) VX.out PX.out.1 PX.out.2 KX.out OX.out
        | some s =>
          have SX := Lib.hid hs
          have IN := Lib.hid (lvS_in (let ⟨_, _, _, _, h⟩ := signAt_kind hs; h))
          have hsz := sign_size IN.out
          have z1 : ¬ s.toList = [] := by
            rw [ByteArray.toList_eq]
            intro h
            have : s.data.toList.length = s.size := by simp
            rw [h] at this
            simp at this
            omega
          have z2 : (!s.toList.isEmpty) = true := by simp [z1]
          have ZZ := Lib.hid hsz
          have plt : p < r.toks.length := by
            obtain ⟨t, ht, _⟩ := signAt_kind hs
            exact (List.getElem?_eq_some_iff.1 ht).1
          dsimp only [Option.getD_some]
          have c := ho.cells
          have f := ho.thawed
          unfold Rdr.cells at c
          clear hs hkb hn ho hsz
          go_wp2_with fail
          obtain ⟨W2, hW2⟩ : ∃ W2, W2 = wr.setCell ⟨r.b, 1, none⟩ (.int .i64 ((p : Int) + 1)) := ⟨_, rfl⟩
          rw [← hW2]
          have o2 : r.Ok W2 ((p + 1 : Nat) : Int) := by rw [hW2]; simpa using OX.out.next ((p : Int) + 1)
          have kk : KeepBut (fun z => z = r.b) wr W2 := by rw [hW2]; exact KeepBut.setAt (S := fun z => z = r.b) (.inl rfl) (KeepBut.refl _ _) _
          have K2 := Lib.hid (KX.out.trans kk)
          have L2 := Lib.hid (LX.out.but kk GB.out)
          have CU := Lib.hid (HIH.out (p + 1) W2 (by have := PX.out.1; omega) plt (HR.out.but K2.out) o2)
          clear hW2 o2 kk c f
          refine CU.out.mono ?_
          rintro e w4 ⟨hk4, ⟨m, q, hev4, rfl, hm, hq1, hq2, ho4⟩ | ⟨q, x, v, hev4, rfl, hv4, hb4⟩⟩
          · have K4 := Lib.hid (K2.out.trans hk4)
            have l4 := L2.out.but hk4 GB.out
            have L4 := Lib.hid l4
            have EV := Lib.hid hev4
            have QB := Lib.hid (And.intro hq1 hq2)
            have O4 := Lib.hid ho4
            have CJ := Lib.hid (rjoin_any r q s n m p w4 ho4 VX.out hm IN.out)
            clear hk4 hev4 hq1 hq2 ho4 hm
            go_wp2_with fail
            refine CJ.out.mono ?_
            intro e w5 hj
            cases hjn : joinE s n m with
            | none =>
              have JN := Lib.hid hjn
              rw [hjn] at hj
              obtain ⟨rfl, hk5, hb5⟩ := hj
              have KX := Lib.hid (K4.out.trans hk5)
              have l5 := L4.out.but hk5 GB.out
              have LX := Lib.hid l5
              have BX := Lib.hid hb5
              have VX := Lib.hid InB.zero
              have EX := Lib.hid (CX.out _ (.chOver SX.out EV.out JN.out))
              clear hk5 hb5 hjn l4
              obtain ⟨g', h', hg', hh', hl'⟩ := l5
              simp only [Value.slice.injEq, Option.some.injEq, Addr.mk.injEq, and_true] at hg'
              subst hg'
              obtain ⟨cl, bx⟩ := hl' k hk
              clear hl' hh' bx
              go_wp2_with fail
              refine (rsign_bad r _ _ _ _ BX.out).mono ?_
              rintro e w6 ⟨rfl, hk6⟩
              have R6 : ChRel r k at_ d w (.slice (some ⟨g, 0, none⟩) 6 6) (.int .i64 0) (.string ⟨#[]⟩) w6 :=
                ⟨KX.out.trans (hk6.but _), LX.out.but (hk6.but _) GB.out, .inr ⟨0, _, _, rfl, VX.out, rfl, BX.out.keep hk6, EX.out⟩⟩
              have H6 := Lib.hid R6
              clear R6 hk6 cl
              go_wp2_with fail
              go_roundw
              case rel => exact H6.out
              case measure =>
                rw [ChM_end]
                unfold ChM
                dsimp only
                have := ZZ.out
                rw [if_neg (by omega), OX.out.atOf]
                omega
            | some x =>
              have JN := Lib.hid hjn
              rw [hjn] at hj
              obtain ⟨rfl, rfl⟩ := hj
              have XI := Lib.hid (joinE_in VX.out hjn)
              clear hjn
              obtain ⟨g', h', hg', hh', hl'⟩ := l4
              simp only [Value.slice.injEq, Option.some.injEq, Addr.mk.injEq, and_true] at hg'
              subst hg'
              obtain ⟨cl, bx⟩ := hl' k hk
              have CS := Lib.hid (rsign_ok r q (h' + k) (lvS k) w4 (HR.out.but K4.out) O4.out bx (by match k, hk with | 0, _ => decide | 1, _ => decide | 2, _ => decide | 3, _ => decide | 4, _ => decide | 5, _ => decide))
              clear hl' hh' bx
              go_wp2_with fail
              refine CS.out.mono ?_
              rintro e w6 ⟨rfl, hk6⟩
              have R6 : ChRel r k at_ d w (.slice (some ⟨g, 0, none⟩) 6 6) (.int .i64 x) (.string ((signAt r.toks q (lvS k)).getD ⟨#[]⟩)) w6 :=
                ⟨K4.out.trans (hk6.but _), L4.out.but (hk6.but _) GB.out, .inl ⟨x, q, rfl, XI.out, by have := PX.out.1; have := QB.out.1; simp only [EvM.at_] at *; omega, QB.out.2, rfl, Box.keep O4.out hk6, fun res h => CX.out res (.chGo SX.out EV.out JN.out h)⟩⟩
              have M6 : ChM r (.string ((signAt r.toks q (lvS k)).getD ⟨#[]⟩)) w6 < ChM r (.string s) wr := by
                unfold ChM
                dsimp only
                have := ZZ.out
                have o6 : r.Ok w6 q := Box.keep O4.out hk6
                rw [if_neg (by omega : ¬ s.size = 0), OX.out.atOf, o6.atOf]
                have h1 := QB.out.1
                have h2 := QB.out.2
                simp only [EvM.at_] at h1
                split <;> omega
              have H6 := Lib.hid R6
              have HM := Lib.hid M6
              obtain ⟨S6, hS6⟩ : ∃ S6, S6 = (signAt r.toks q (lvS k)).getD ⟨#[]⟩ := ⟨_, rfl⟩
              rw [← hS6] at H6 HM ⊢
              clear R6 M6 hk6 hS6 cl
              go_wp2_with fail
              go_roundw
              case rel => exact H6.out
              case measure => exact HM.out
          · have KX := Lib.hid (K2.out.trans hk4)
            have l4 := L2.out.but hk4 GB.out
            have LX := Lib.hid l4
            have BX := Lib.hid hb4
            have VX := Lib.hid InB.zero
            have EX := Lib.hid (CX.out _ (.chBad SX.out hev4))
            have CJ := Lib.hid (rjoin_bad r q x s n v p w4 hb4)
            clear hk4 hev4 hv4 hb4
            go_wp2_with fail
            refine CJ.out.mono ?_
            rintro e w5 ⟨rfl, rfl⟩
            obtain ⟨g', h', hg', hh', hl'⟩ := l4
            simp only [Value.slice.injEq, Option.some.injEq, Addr.mk.injEq, and_true] at hg'
            subst hg'
            obtain ⟨cl, bx⟩ := hl' k hk
            clear hl' hh' bx
            go_wp2_with fail
            refine (rsign_bad r _ _ _ _ BX.out).mono ?_
            rintro e w6 ⟨rfl, hk6⟩
            have R6 : ChRel r k at_ d w (.slice (some ⟨g, 0, none⟩) 6 6) (.int .i64 0) (.string ⟨#[]⟩) w6 :=
              ⟨KX.out.trans (hk6.but _), LX.out.but (hk6.but _) GB.out, .inr ⟨0, _, _, rfl, VX.out, rfl, BX.out.keep hk6, EX.out⟩⟩
            have H6 := Lib.hid R6
            clear R6 hk6 cl
            go_wp2_with fail
            go_roundw
            case rel => exact H6.out
            case measure =>
              rw [ChM_end]
              unfold ChM
              dsimp only
              have := ZZ.out
              rw [if_neg (by omega), OX.out.atOf]
              omega
      · have HE := Lib.hid (EvPost.bad (r := r) (w := w) (w' := wr) hev hv hkb hb)
        clear hev hv hkb hb hlv
        go_wp2_with fail
        go_ret
        exact HE.out
  · have KX := Lib.hid ((K1.out.but (fun z => z = r.b)).trans hk2)
    have l2 := L1.out.but hk2 GB.out
    have LX := Lib.hid l2
    have BX := Lib.hid hb2
    have VX := Lib.hid hv
    have EX := Lib.hid (Ev.levBad hk hev)
    clear hk2 hev hv hb2
    obtain ⟨g', h', hg', hh', hl'⟩ := l2
    simp only [Value.slice.injEq, Option.some.injEq, Addr.mk.injEq, and_true] at hg'
    subst hg'
    obtain ⟨cl, bx⟩ := hl' k hk
    clear hl' hh' bx
    go_wp2_with fail
    refine (rsign_bad r _ _ _ _ BX.out).mono ?_
    rintro e w6 ⟨rfl, hk6⟩
    have R6 : ChRel r k at_ d w (.slice (some ⟨g, 0, none⟩) 6 6) (.int .i64 v) (.string ⟨#[]⟩) w6 :=
      ⟨KX.out.trans (hk6.but _), LX.out.but (hk6.but _) GB.out, .inr ⟨v, _, _, rfl, VX.out, rfl, BX.out.keep hk6, EX.out⟩⟩
    have H6 := Lib.hid R6
    clear R6 hk6 cl
    clear BX VX EX KX LX CU
    go_wp2_with fail
    go_loopw [8, 9] (fun v8 v9 wr => ChRel r k at_ d w (.slice (some ⟨g, 0, none⟩) 6 6) v8 v9 wr) (fun _ v9 wr => ChM r v9 wr)
    case atStart => exact H6.out
    case round =>
      obtain ⟨hkb, hlv, ⟨n, p, rfl, hn, hp1, hp2, rfl, ho, hc⟩ | ⟨v, p, x, rfl, hv, rfl, hb, hev⟩⟩ := hrel
      · have KX := Lib.hid hkb
        have LX := Lib.hid hlv
        have VX := Lib.hid hn
        have PX := Lib.hid (And.intro hp1 hp2)
        have OX := Lib.hid ho
        have CX := Lib.hid hc
        clear hlv hp1 hc
        cases hs : signAt r.toks p (lvS k) with
        | none =>
          have SX := Lib.hid hs
          dsimp only [Option.getD_none]
          clear hs hkb hn hp2 ho
          go_wp2_with fail
          go_ret
          exact EvPost.ok (CX.out _ (.stop SX.out)) VX.out PX.out.1 PX.out.2 KX.out OX.out
        | some s =>
          have SX := Lib.hid hs
          have IN := Lib.hid (lvS_in (let ⟨_, _, _, _, h⟩ := signAt_kind hs; h))
          have hsz := sign_size IN.out
          have z1 : ¬ s.toList = [] := by
            rw [ByteArray.toList_eq]
            intro h
            have : s.data.toList.length = s.size := by simp
            rw [h] at this
            simp at this
            omega
          have z2 : (!s.toList.isEmpty) = true := by simp [z1]
          have ZZ := Lib.hid hsz
          have plt : p < r.toks.length := by
            obtain ⟨t, ht, _⟩ := signAt_kind hs
            exact (List.getElem?_eq_some_iff.1 ht).1
          dsimp only [Option.getD_some]
          have c := ho.cells
          have f := ho.thawed
          unfold Rdr.cells at c
          clear hs hkb hn ho hsz
          go_wp2_with fail
          obtain ⟨W2, hW2⟩ : ∃ W2, W2 = wr.setCell ⟨r.b, 1, none⟩ (.int .i64 ((p : Int) + 1)) := ⟨_, rfl⟩
          rw [← hW2]
          have o2 : r.Ok W2 ((p + 1 : Nat) : Int) := by rw [hW2]; simpa using OX.out.next ((p : Int) + 1)
          have kk : KeepBut (fun z => z = r.b) wr W2 := by rw [hW2]; exact KeepBut.setAt (S := fun z => z = r.b) (.inl rfl) (KeepBut.refl _ _) _
          have K2 := Lib.hid (KX.out.trans kk)
          have L2 := Lib.hid (LX.out.but kk GB.out)
          have CU := Lib.hid (HIH.out (p + 1) W2 (by have := PX.out.1; omega) plt (HR.out.but K2.out) o2)
          clear hW2 o2 kk c f
          refine CU.out.mono ?_
          rintro e w4 ⟨hk4, ⟨m, q, hev4, rfl, hm, hq1, hq2, ho4⟩ | ⟨q, x, v, hev4, rfl, hv4, hb4⟩⟩
          · have K4 := Lib.hid (K2.out.trans hk4)
            have l4 := L2.out.but hk4 GB.out
            have L4 := Lib.hid l4
            have EV := Lib.hid hev4
            have QB := Lib.hid (And.intro hq1 hq2)
            have O4 := Lib.hid ho4
            have CJ := Lib.hid (rjoin_any r q s n m p w4 ho4 VX.out hm IN.out)
            clear hk4 hev4 hq1 hq2 ho4 hm
            go_wp2_with fail
            refine CJ.out.mono ?_
            intro e w5 hj
            cases hjn : joinE s n m with
            | none =>
              have JN := Lib.hid hjn
              rw [hjn] at hj
              obtain ⟨rfl, hk5, hb5⟩ := hj
              have KX := Lib.hid (K4.out.trans hk5)
              have l5 := L4.out.but hk5 GB.out
              have LX := Lib.hid l5
              have BX := Lib.hid hb5
              have VX := Lib.hid InB.zero
              have EX := Lib.hid (CX.out _ (.chOver SX.out EV.out JN.out))
              clear hk5 hb5 hjn l4
              obtain ⟨g', h', hg', hh', hl'⟩ := l5
              simp only [Value.slice.injEq, Option.some.injEq, Addr.mk.injEq, and_true] at hg'
              subst hg'
              obtain ⟨cl, bx⟩ := hl' k hk
              clear hl' hh' bx
              go_wp2_with fail
              refine (rsign_bad r _ _ _ _ BX.out).mono ?_
              rintro e w6 ⟨rfl, hk6⟩
              have R6 : ChRel r k at_ d w (.slice (some ⟨g, 0, none⟩) 6 6) (.int .i64 0) (.string ⟨#[]⟩) w6 :=
                ⟨KX.out.trans (hk6.but _), LX.out.but (hk6.but _) GB.out, .inr ⟨0, _, _, rfl, VX.out, rfl, BX.out.keep hk6, EX.out⟩⟩
              have H6 := Lib.hid R6
              clear R6 hk6 cl
              go_wp2_with fail
              go_roundw
              case rel => exact H6.out
              case measure =>
                rw [ChM_end]
                unfold ChM
                dsimp only
                have := ZZ.out
                rw [if_neg (by omega), OX.out.atOf]
                omega
            | some x =>
              have JN := Lib.hid hjn
              rw [hjn] at hj
              obtain ⟨rfl, rfl⟩ := hj
              have XI := Lib.hid (joinE_in VX.out hjn)
              clear hjn
              obtain ⟨g', h', hg', hh', hl'⟩ := l4
              simp only [Value.slice.injEq, Option.some.injEq, Addr.mk.injEq, and_true] at hg'
              subst hg'
              obtain ⟨cl, bx⟩ := hl' k hk
              have CS := Lib.hid (rsign_ok r q (h' + k) (lvS k) w4 (HR.out.but K4.out) O4.out bx (by match k, hk with | 0, _ => decide | 1, _ => decide | 2, _ => decide | 3, _ => decide | 4, _ => decide | 5, _ => decide))
              clear hl' hh' bx
              go_wp2_with fail
              refine CS.out.mono ?_
              rintro e w6 ⟨rfl, hk6⟩
              have R6 : ChRel r k at_ d w (.slice (some ⟨g, 0, none⟩) 6 6) (.int .i64 x) (.string ((signAt r.toks q (lvS k)).getD ⟨#[]⟩)) w6 :=
                ⟨K4.out.trans (hk6.but _), L4.out.but (hk6.but _) GB.out, .inl ⟨x, q, rfl, XI.out, by have := PX.out.1; have := QB.out.1; simp only [EvM.at_] at *; omega, QB.out.2, rfl, Box.keep O4.out hk6, fun res h => CX.out res (.chGo SX.out EV.out JN.out h)⟩⟩
              have M6 : ChM r (.string ((signAt r.toks q (lvS k)).getD ⟨#[]⟩)) w6 < ChM r (.string s) wr := by
                unfold ChM
                dsimp only
                have := ZZ.out
                have o6 : r.Ok w6 q := Box.keep O4.out hk6
                rw [if_neg (by omega : ¬ s.size = 0), OX.out.atOf, o6.atOf]
                have h1 := QB.out.1
                have h2 := QB.out.2
                simp only [EvM.at_] at h1
                split <;> omega
              have H6 := Lib.hid R6
              have HM := Lib.hid M6
              obtain ⟨S6, hS6⟩ : ∃ S6, S6 = (signAt r.toks q (lvS k)).getD ⟨#[]⟩ := ⟨_, rfl⟩
              rw [← hS6] at H6 HM ⊢
              clear R6 M6 hk6 hS6 cl
              go_wp2_with fail
              go_roundw
              case rel => exact H6.out
              case measure => exact HM.out
          · have KX := Lib.hid (K2.out.trans hk4)
            have l4 := L2.out.but hk4 GB.out
            have LX := Lib.hid l4
            have BX := Lib.hid hb4
            have VX := Lib.hid InB.zero
            have EX := Lib.hid (CX.out _ (.chBad SX.out hev4))
            have CJ := Lib.hid (rjoin_bad r q x s n v p w4 hb4)
            clear hk4 hev4 hv4 hb4
            go_wp2_with fail
            refine CJ.out.mono ?_
            rintro e w5 ⟨rfl, rfl⟩
            obtain ⟨g', h', hg', hh', hl'⟩ := l4
            simp only [Value.slice.injEq, Option.some.injEq, Addr.mk.injEq, and_true] at hg'
            subst hg'
            obtain ⟨cl, bx⟩ := hl' k hk
            clear hl' hh' bx
            go_wp2_with fail
            refine (rsign_bad r _ _ _ _ BX.out).mono ?_
            rintro e w6 ⟨rfl, hk6⟩
            have R6 : ChRel r k at_ d w (.slice (some ⟨g, 0, none⟩) 6 6) (.int .i64 0) (.string ⟨#[]⟩) w6 :=
              ⟨KX.out.trans (hk6.but _), LX.out.but (hk6.but _) GB.out, .inr ⟨0, _, _, rfl, VX.out, rfl, BX.out.keep hk6, EX.out⟩⟩
            have H6 := Lib.hid R6
            clear R6 hk6 cl
            go_wp2_with fail
            go_roundw
            case rel => exact H6.out
            case measure =>
              rw [ChM_end]
              unfold ChM
              dsimp only
              have := ZZ.out
              rw [if_neg (by omega), OX.out.atOf]
              omega
      · have HE := Lib.hid (EvPost.bad (r := r) (w := w) (w' := wr) hev hv hkb hb)
        clear hev hv hkb hb hlv
        go_wp2_with fail
        go_ret
        exact HE.out
/-- Any level, any place. -/
theorem rlevels_all (r : Rdr) : ∀ (N : Nat),
    (∀ (k at_ d : Nat) w, k ≤ 6 → at_ ≤ r.toks.length → 8 * (r.toks.length - at_) + (7 - k) ≤ N → d ≤ 17 → r.In w → r.Ok w at_ → Calls Tryz.prog 14 #[.pointer (some ⟨r.b, 0, none⟩), .int .i64 k, .int .i64 d] w (EvPost r (.lev k at_) d w)) ∧
    (∀ (at_ d : Nat) w, at_ ≤ r.toks.length → 8 * (r.toks.length - at_) ≤ N → d ≤ 17 → r.In w → r.Ok w at_ → Calls Tryz.prog 30 #[.pointer (some ⟨r.b, 0, none⟩), .int .i64 d] w (EvPost r (.un at_) d w)) := by
  intro N
  induction N using Nat.strongRecOn with
  | ind N ih =>
    refine ⟨?_, ?_⟩
    · intro k at_ d w hk ha hN hd hr ho
      by_cases k6 : k = 6
      · subst k6
        refine rlevel_top r at_ d w hr ho fun w' hr' ho' => ?_
        exact (ih (N - 1) (by omega)).2 at_ d w' ha (by omega) hd hr' ho'
      · refine rlevel_low r k at_ d w (by omega) hr ho ha fun a w' h1 h2 hr' ho' => ?_
        have := (ih (N - 1) (by omega)).1 (k + 1) a d w' (by omega) h2 (by omega) hd hr' ho'
        simpa using this
    · intro at_ d w ha hN hd hr ho
      cases hs : signAt r.toks at_ unS with
      | none => exact runary_atom r at_ d w hr ho ha hd hs
      | some s =>
        have hlt : at_ < r.toks.length := by
          obtain ⟨t, ht, _⟩ := signAt_kind hs
          exact (List.getElem?_eq_some_iff.1 ht).1
        have hin : s = sSub ∨ s = sNot ∨ s = sOpen := by
          obtain ⟨_, _, _, _, hm⟩ := signAt_kind hs
          simp [unS, inS] at hm
          rcases hm with h | h | h
          · exact .inl h.symm
          · exact .inr (.inl h.symm)
          · exact .inr (.inr h.symm)
        have up : ∀ w', r.In w' → r.Ok w' ((at_ + 1 : Nat) : Int) → d ≤ 16 → Calls Tryz.prog 30 #[.pointer (some ⟨r.b, 0, none⟩), .int .i64 ((d : Int) + 1)] w' (EvPost r (.un (at_ + 1)) (d + 1) w') := fun w' h1 h2 h3 => by
          have := (ih (N - 1) (by omega)).2 (at_ + 1) (d + 1) w' hlt (by omega) (by omega) h1 h2
          simpa using this
        have lv : ∀ w', r.In w' → r.Ok w' ((at_ + 1 : Nat) : Int) → d ≤ 16 → Calls Tryz.prog 14 #[.pointer (some ⟨r.b, 0, none⟩), .int .i64 0, .int .i64 ((d : Int) + 1)] w' (EvPost r (.lev 0 (at_ + 1)) (d + 1) w') := fun w' h1 h2 h3 => by
          have := (ih (N - 1) (by omega)).1 0 (at_ + 1) (d + 1) w' (by omega) hlt (by omega) (by omega) h1 h2
          simpa using this
        by_cases deep : 16 < d
        · rcases hin with rfl | rfl | rfl
          · exact runary_long_sSub r at_ d w hr ho ha hd hs deep
          · exact runary_long_sNot r at_ d w hr ho ha hd hs deep
          · exact runary_long_sOpen r at_ d w hr ho ha hd hs deep
        · have deep' : d ≤ 16 := by omega
          rcases hin with rfl | rfl | rfl
          · exact runary_neg r at_ d w hr ho ha hd hs deep' fun w' h1 h2 => up w' h1 h2 deep'
          · exact runary_inv r at_ d w hr ho ha hd hs deep' fun w' h1 h2 => up w' h1 h2 deep'
          · exact runary_par r at_ d w hr ho ha hd hs deep' fun w' h1 h2 => lv w' h1 h2 deep'
end Go.Proofs.YtockkidbncpdlaaGreatDoor
