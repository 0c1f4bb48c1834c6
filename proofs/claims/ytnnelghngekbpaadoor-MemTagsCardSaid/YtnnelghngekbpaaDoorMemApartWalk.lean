/- MemApart's walk. -/
import Derived.Test.YtnnelghngekbpaaDoorMemZeroWalk
namespace Go.Proofs.YtnnelghngekbpaaDoor
set_option linter.unusedVariables false
set_option linter.unusedSimpArgs false
open Go.RowKit
/-- An argument's bytes, of a memory made since. -/
theorem Lies.apart {W w : World} {v : Value} {xs : List Int} {O : Nat → Prop} (h : Lies W v xs (fun _ => False)) (k : Keep W w) (hO : ∀ z, O z → W.heap.size ≤ z) : Lies w v xs O := by
  obtain ⟨ad, cs, h1, h2, h3, h4⟩ := h
  refine ⟨ad, cs, h1, h2, h3, fun j hj => ?_⟩
  obtain ⟨b, off, e, _, hl, hc⟩ := h4 j hj
  exact ⟨b, off, e, fun ho => by have := hO b ho; omega, Nat.lt_of_lt_of_le hl k.size, k.cellOf hc⟩
/-- A Store that lies within: it goes. -/
theorem dstore_in {w : World} {m : Nat} {O : Nat → Prop} {bs : List Int} {ts : List Bool} (a : Int) (ad : Option Addr) (X cs : Nat) (xs : List Int) (hX : X = xs.length) (h0 : 0 ≤ a) (h1 : a + X ≤ bs.length) (hx : ∀ z ∈ xs, IsByte z) (h : DMem w m O bs ts) (hv : Lies w (.slice ad xs.length cs) xs O) :
    Calls Tryd.prog 11 #[.pointer (some ⟨m, 0, none⟩), .int .i64 a, .slice ad X cs] w fun e w' => e = .returned .nilIface ∧ DMem w' m O (putAt bs a.toNat xs) (offAt ts a.toNat xs.length) ∧ KeepBut O w w' := by
  subst hX
  have hM := h.most
  refine (dstore_any a (by unfold In64; omega) _ xs hx h hv).mono ?_
  rintro e w' ⟨u, rfl, h⟩
  rcases h with ⟨hn, _⟩ | ⟨_, rfl, hD, hB⟩
  · exfalso
    simp [reachB] at hn
    omega
  · exact ⟨rfl, hD, hB⟩
set_option maxRecDepth 100000 in
set_option maxHeartbeats 2000000 in
theorem memApart_walk (p : Int) (vx : Value) (xs : List Int) (q : Int) (vy : Value) (ys : List Int) {W : World} (hp : 0 ≤ p ∧ p ≤ 255) (hLx : Lies W vx xs (fun _ => False)) (hBx : ∀ z ∈ xs, IsByte z) (hNx : xs.length ≤ 140737488351232) (hq : 0 ≤ q ∧ q ≤ 255) (hLy : Lies W vy ys (fun _ => False)) (hBy : ∀ z ∈ ys, IsByte z) (hNy : ys.length ≤ 140737488351232) (hE : ErrT W) :
    Calls Tryd.prog 5 #[.int .u8 p, vx, .int .u8 q, vy] W fun e W' => e = .returned (.bool true) ∧ Keep W W' := by
  have HE := Lib.hid hE
  have HLx := Lib.hid hLx
  have HLy := Lib.hid hLy
  have HBx := Lib.hid hBx
  have HBy := Lib.hid hBy
  obtain ⟨adx, csx, rfl, _⟩ := hLx
  obtain ⟨ady, csy, rfl, _⟩ := hLy
  obtain ⟨X, hX⟩ : ∃ X, X = xs.length := ⟨_, rfl⟩
  obtain ⟨Y, hY⟩ : ∃ Y, Y = ys.length := ⟨_, rfl⟩
  rw [← hX] at hNx ⊢
  rw [← hY] at hNy ⊢
  have HX := Lib.hid hX
  have HY := Lib.hid hY
  clear hE hBx hBy hX hY
  have x0 : (0 : Int) ≤ (X : Int) := Int.natCast_nonneg _
  have y0 : (0 : Int) ≤ (Y : Int) := Int.natCast_nonneg _
  have x1 : (X : Int) ≤ 140737488351232 := by omega
  have y1 : (Y : Int) ≤ 140737488351232 := by omega
  go_enter Tryd.func5, Tryd.ntmps5
  go_wp2_with fail
  refine (mknown_any _ HE.out).mono ?_
  rintro e w1 ⟨rfl, hk1⟩
  have K1 := Lib.hid hk1
  clear hk1
  go_wp2_with fail
  all_goals (try (go_ret; exact ⟨rfl, K1.out⟩))
  all_goals (
    have hpx : p + (X : Int) ≤ 256 := by omega
    have hqy : q + (Y : Int) ≤ 256 := by omega
    have hdis : Hid (p + (X : Int) ≤ q ∨ q + (Y : Int) ≤ p) := Lib.hid (by omega)
    refine (dnew_good 256 16 (by decide) (by decide) (by decide) _ (HE.out.keep K1.out)).mono ?_
    rintro e w2 ⟨m, O, rfl, hD, hk2, hO⟩
    have K2 := Lib.hid (K1.out.trans hk2)
    have D2 := Lib.hid hD
    have OL := Lib.hid (fun z (h : O z) => Nat.le_trans K1.out.size (hO z h))
    clear hk2 hD hO
    unfold ptrV
    go_wp2_with fail
    refine (dnew_good 256 16 (by decide) (by decide) (by decide) _ (HE.out.keep K2.out)).mono ?_
    rintro e w3 ⟨n, N, rfl, hD, hk3, hO⟩
    have K3 := Lib.hid (K2.out.trans hk3)
    have M3 := Lib.hid (D2.out.keep hk3)
    have N3 := Lib.hid hD
    have NL := Lib.hid (fun z (h : N z) => Nat.le_trans K2.out.size (hO z h))
    have DJ : Hid (∀ z, O z → ¬ N z) := Lib.hid (fun z h1 h2 => by have := D2.out.lt z h1; have := hO z h2; omega)
    clear hk3 hD hO D2 K2
    unfold ptrV
    go_wp2_with fail
    go_loopw [15] (fun i wr => ∃ (k : Nat) (bs : List Int) (ts : List Bool), k ≤ 16 ∧ i = .int .i64 (k : Int) ∧ DMem wr m O bs ts ∧ DMem wr n N bs ts ∧ bs.length = 16 * 16 ∧ KeepBut (fun z => O z ∨ N z) w3 wr) (fun i _ => 16 - (intOf i).toNat)
    case atStart => exact ⟨0, _, _, by decide, rfl, M3.out, N3.out, by simp, KeepBut.refl _ _⟩
    case round =>
      obtain ⟨k, bs, ts, hk, rfl, hM, hN, hL, hK⟩ := hrel
      have k0 : (0 : Int) ≤ (k : Int) := Int.natCast_nonneg _
      have HM := Lib.hid hM
      have HN := Lib.hid hN
      have HK := Lib.hid hK
      have HL := Lib.hid hL
      clear hM hN hK hL
      by_cases h : k < 16
      · have hk16 : (k : Int) < 16 := by omega
        go_wp2_with fail
        refine (croot_any 16 _).mono ?_
        rintro e w4 ⟨rfl, hk4⟩
        go_wp2_with fail
        refine (dstoreCap_at k HL.out h true 0 16 0 127 0 (by decide) (by decide) (by decide) (by decide) (by decide) (HM.out.keep hk4) (HE.out.keep ((K3.out.butNew HK.out (fun z hz => hz.elim (OL.out z) (NL.out z))).trans hk4))).mono ?_
        rintro e w5 ⟨rfl, hD5, hB5⟩
        have M5 := Lib.hid hD5
        have N5 := Lib.hid ((HN.out.keep hk4).but hB5 (fun z h1 h2 => DJ.out z h2 h1))
        have K5 := Lib.hid ((HK.out.trans (hk4.but _)).trans (hB5.mono (fun z _ h => .inl h)))
        clear hk4 hD5 hB5 HM HN HK
        go_wp2_with fail
        refine (croot_any 16 _).mono ?_
        rintro e w6 ⟨rfl, hk6⟩
        go_wp2_with fail
        refine (dstoreCap_at k HL.out h true 0 16 0 127 0 (by decide) (by decide) (by decide) (by decide) (by decide) (N5.out.keep hk6) (HE.out.keep ((K3.out.butNew K5.out (fun z hz => hz.elim (OL.out z) (NL.out z))).trans hk6))).mono ?_
        rintro e w7 ⟨rfl, hD7, hB7⟩
        have N7 := Lib.hid hD7
        have M7 := Lib.hid ((M5.out.keep hk6).but hB7 (fun z h1 h2 => DJ.out z h1 h2))
        have K7 := Lib.hid ((K5.out.trans (hk6.but _)).trans (hB7.mono (fun z _ h => .inr h)))
        clear hk6 hD7 hB7 M5 N5 K5
        go_wp2_with fail
        refine ⟨⟨k + 1, _, _, h, by simp, M7.out, N7.out, by rw [putAt_length]; exact HL.out, K7.out⟩, by simp [intOf]; omega⟩
      · obtain rfl : k = 16 := by omega
        go_wp2_with fail
        have KW11 := Lib.hid (K3.out.butNew HK.out (fun z hz => hz.elim (OL.out z) (NL.out z)))
        have HL11 : Hid (bs.length = 256) := Lib.hid (by rw [HL.out])
        refine (dstore_in p adx X csx xs HX.out (by omega) (by rw [HL11.out]; omega) HBx.out HM.out (HLx.out.apart KW11.out OL.out)).mono ?_
        rintro e w11 ⟨rfl, hD11, hB11⟩
        have M11 := Lib.hid hD11
        have N11 := Lib.hid (HN.out.but hB11 (fun z h1 h2 => DJ.out z h2 h1))
        have KW12 := Lib.hid (KW11.out.butNew hB11 OL.out)
        have HL12 : Hid ((putAt bs p.toNat xs).length = 256) := Lib.hid (by rw [putAt_length]; exact HL11.out)
        clear hD11 hB11 KW11 HM HN HK
        go_wp2_with fail
        refine (dstore_in q ady Y csy ys HY.out (by omega) (by rw [HL12.out]; omega) HBy.out M11.out (HLy.out.apart KW12.out OL.out)).mono ?_
        rintro e w12 ⟨rfl, hD12, hB12⟩
        have M12 := Lib.hid hD12
        have N12 := Lib.hid (N11.out.but hB12 (fun z h1 h2 => DJ.out z h2 h1))
        have KW13 := Lib.hid (KW12.out.butNew hB12 OL.out)
        have HL13 := HL11
        clear hD12 hB12 KW12 M11 N11
        go_wp2_with fail
        refine (dstore_in q ady Y csy ys HY.out (by omega) (by rw [HL13.out]; omega) HBy.out N12.out (HLy.out.apart KW13.out NL.out)).mono ?_
        rintro e w13 ⟨rfl, hD13, hB13⟩
        have N13 := Lib.hid hD13
        have M13 := Lib.hid (M12.out.but hB13 (fun z h1 h2 => DJ.out z h1 h2))
        have KW14 := Lib.hid (KW13.out.butNew hB13 NL.out)
        have HL14 : Hid ((putAt bs q.toNat ys).length = 256) := Lib.hid (by rw [putAt_length]; exact HL11.out)
        clear hD13 hB13 KW13 M12 N12
        go_wp2_with fail
        refine (dstore_in p adx X csx xs HX.out (by omega) (by rw [HL14.out]; omega) HBx.out N13.out (HLx.out.apart KW14.out NL.out)).mono ?_
        rintro e w14 ⟨rfl, hD14, hB14⟩
        have N14 := Lib.hid hD14
        have M14 := Lib.hid (M13.out.but hB14 (fun z h1 h2 => DJ.out z h1 h2))
        have KW15 := Lib.hid (KW14.out.butNew hB14 NL.out)
        clear hD14 hB14 KW14 M13 N13
        have e1 : putAt (putAt bs p.toNat xs) q.toNat ys = putAt (putAt bs q.toNat ys) p.toNat xs := by
          have l1 := HL11.out
          have l2 := HX.out
          have l3 := HY.out
          have l4 := hdis.out
          exact put_comm bs xs ys p.toNat q.toNat (by omega) (by omega) (by omega)
        have e2 := off_comm ts p.toNat xs.length q.toNat ys.length
        have CS1 := Lib.hid (fun W' (k : Keep w14 W') => dsame_any (M14.out.keep k) (N14.out.keep k))
        have CS2 := Lib.hid (fun W' (k : Keep w14 W') => dsame_any (N14.out.keep k) (M14.out.keep k))
        rw [e1, e2] at CS1 CS2
        simp only [decide_true, Bool.and_true] at CS1 CS2
        unfold ptrV at CS1 CS2
        clear e1 e2 M14 N14
        go_wp2_with fail
        refine (CS1.out _ (Keep.refl _)).mono ?_
        rintro e w15 ⟨rfl, hk15⟩
        go_wp2_with fail
        refine (CS2.out _ hk15).mono ?_
        rintro e w16 ⟨rfl, hk16⟩
        go_wp2_with fail
        go_ret
        exact ⟨rfl, (KW15.out.trans hk15).trans hk16⟩)
end Go.Proofs.YtnnelghngekbpaaDoor
