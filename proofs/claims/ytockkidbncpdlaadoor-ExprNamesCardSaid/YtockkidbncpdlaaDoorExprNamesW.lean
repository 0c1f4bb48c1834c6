/- ExprNames's walk, over what the program's Line and Eval are to answer. -/
import Derived.Test.YtockkidbncpdlaaDoorExprC
import Derived.Test.YtockkidbncpdlaaDoorEvLev
namespace Go.Proofs.YtockkidbncpdlaaDoor
set_option linter.unusedVariables false
set_option linter.unusedSimpArgs false
open Go.RowKit
def nS : ByteArray := ⟨#[120, 32, 45, 32, 121]⟩
def nToks : List Tok := [⟨1, ⟨#[120]⟩, 0, 0⟩, ⟨3, ⟨#[45]⟩, 0, 2⟩, ⟨1, ⟨#[121]⟩, 0, 4⟩]
theorem nLex : lexL nS.data.toList 0 = .ok nToks := by kernel_rfl
theorem nOk : ∀ t ∈ nToks, TokOk t := fun t ht => ((lexL_toks _ _ _ _ (Nat.le_refl _) nLex).1 t ht).1
def nNames (a b : Int) : List (ByteArray × Int) := [(⟨#[120]⟩, a), (⟨#[121]⟩, b), (⟨#[120]⟩, 7)]
theorem boundE_inB {n : Int} (h : InB n) : boundE n = some n := by unfold boundE lxBig; rw [if_neg (by unfold InB at h; omega)]
theorem ev_name {N : List (ByteArray × Int)} {at_ : Nat} {t : Tok} {n : Int} (ht : nToks[at_]? = some t) (hk : t.kind = 1) (hn : nameE N t.text = some n) (hb : InB n) : Ev nToks N (.lev 6 at_) 0 (.ok n (at_ + 1)) := by
  have h := Ev.atom (N := N) (d := 0) ht (.inr hk)
  have e : atomE N t at_ = .ok n (at_ + 1) := by
    unfold atomE
    rw [if_neg (by omega), hn]
    simp only [boundE_inB hb]
  rw [e] at h
  exact .top h
theorem ev_noname {N : List (ByteArray × Int)} {at_ : Nat} {t : Tok} (ht : nToks[at_]? = some t) (hk : t.kind = 1) (hn : nameE N t.text = none) : Ev nToks N (.lev 6 at_) 0 (.bad at_ 12) := by
  have h := Ev.atom (N := N) (d := 0) ht (.inr hk)
  have e : atomE N t at_ = .bad at_ 12 := by
    unfold atomE
    rw [if_neg (by omega), hn]
  rw [e] at h
  exact .top h
theorem n_none3 : ∀ i : Fin 6, signAt nToks 3 (lvS i.val) = none := by decide +kernel
theorem n_none1 : signAt nToks 1 (lvS 5) = none := by decide +kernel
theorem n_sign1 : signAt nToks 1 (lvS 4) = some sSub := by decide +kernel
theorem nEv1 {a b : Int} (ha : InB a) (hb : InB b) (hab : InB (a - b)) : Ev nToks (nNames a b) (.lev 0 0) 0 (.ok (a - b) 3) := by
  have e1 := ev_name (N := nNames a b) (at_ := 0) (t := ⟨1, ⟨#[120]⟩, 0, 0⟩) rfl rfl (by simp [nameE, nNames]) ha
  have e2 := ev_name (N := nNames a b) (at_ := 2) (t := ⟨1, ⟨#[121]⟩, 0, 4⟩) rfl rfl (by unfold nNames nameE; rw [if_neg (by decide +kernel)]; unfold nameE; rw [if_pos rfl]) hb
  have f1 := Ev.up 5 1 (by decide) e1 (fun i h1 h2 => by have h5 : i = 5 := (by omega); subst h5; exact n_none1)
  have f2 := Ev.up 5 1 (by decide) e2 (fun i h1 h2 => by have h5 : i = 5 := (by omega); subst h5; exact n_none3 5)
  have hj : joinE sSub a b = some (a - b) := by
    unfold joinE
    rw [if_neg (by decide +kernel), if_neg (by decide +kernel), if_neg (by decide +kernel), if_neg (by decide +kernel), if_pos rfl, boundE_inB hab]
  have g := Ev.bin (k := 4) (by decide) f1 n_sign1 f2 (n_none3 4) hj
  exact Ev.up 0 4 (by decide) g (fun i h1 h2 => n_none3 ⟨i, by omega⟩)
theorem nEv2 {a b : Int} (hb : InB b) : Ev nToks (nNames a b) (.lev 0 2) 0 (.ok b 3) := by
  have e2 := ev_name (N := nNames a b) (at_ := 2) (t := ⟨1, ⟨#[121]⟩, 0, 4⟩) rfl rfl (by unfold nNames nameE; rw [if_neg (by decide +kernel)]; unfold nameE; rw [if_pos rfl]) hb
  exact Ev.up 0 6 (by decide) e2 (fun i h1 h2 => n_none3 ⟨i, by omega⟩)
theorem nEv3 {a : Int} (ha : InB a) : Ev nToks [(⟨#[120]⟩, a)] (.lev 0 0) 0 (.bad 2 12) := by
  have e1 := ev_name (N := [(⟨#[120]⟩, a)]) (at_ := 0) (t := ⟨1, ⟨#[120]⟩, 0, 0⟩) rfl rfl (by simp [nameE]) ha
  have e2 := ev_noname (N := [(⟨#[120]⟩, a)]) (at_ := 2) (t := ⟨1, ⟨#[121]⟩, 0, 4⟩) rfl rfl (by unfold nameE; rw [if_neg (by decide +kernel)]; rfl)
  have f1 := Ev.up 5 1 (by decide) e1 (fun i h1 h2 => by have h5 : i = 5 := (by omega); subst h5; exact n_none1)
  have f2 := Ev.upBad 5 1 (by decide) e2
  exact Ev.upBad 0 4 (by decide) (Ev.binBad (k := 4) (by decide) f1 n_sign1 f2)
set_option maxHeartbeats 2000000 in
set_option maxRecDepth 100000 in
theorem exprNames_walk (hL : PLine) (hE : PEval) (a b : Int) (ha : -2147483648 ≤ a ∧ a ≤ 2147483647) (hb : -2147483648 ≤ b ∧ b ≤ 2147483647) (w : World) (hP : Pre w) : Calls Tryd.prog 5 #[.int .i32 a, .int .i32 b] w fun e w' => e = .returned (.bool true) ∧ Keep w w' := by
  have HP := Lib.hid hP
  have HE := Lib.hid hE
  have CK := Lib.hid (known_any hL hE w hP)
  have HLn := Lib.hid hL
  have V1 := Lib.hid (nEv1 (a := a) (b := b) (by unfold InB; omega) (by unfold InB; omega) (by unfold InB; omega))
  have V2 := Lib.hid (nEv2 (a := a) (b := b) (by unfold InB; omega))
  have V3 := Lib.hid (nEv3 (a := a) (by unfold InB; omega))
  obtain ⟨a0, a1⟩ := ha
  obtain ⟨b0, b1⟩ := hb
  clear hP hE hL
  go_enter Tryd.func5, Tryd.ntmps5
  go_wp2_with fail
  refine CK.out.mono ?_
  rintro e w1 ⟨rfl, hk1⟩
  have K1 := Lib.hid hk1
  clear hk1
  go_wp2_with fail
  refine (HLn.out nS _ (by decide) (HP.out.keep K1.out)).mono ?_
  intro e w2 h
  unfold LineP at h
  rw [nLex] at h
  obtain ⟨v, rfl, ho, hk2⟩ := h
  obtain ⟨p, cap, rfl, hc, hr⟩ := own_at ho
  have K2 := Lib.hid (K1.out.trans hk2)
  have R2 := Lib.hid hr
  have HC := Lib.hid hc
  clear ho hr hk2 hc
  go_wp2_with fail
  have BN := Box.new w2 #[.string ⟨#[120]⟩, .int .i64 a, .string ⟨#[121]⟩, .int .i64 b, .string ⟨#[120]⟩, .int .i64 7] 36
  have HN3 : Hid (∀ i : Nat, i < (nameRows (nNames a b)).length → (#[.string ⟨#[120]⟩, .int .i64 a, .string ⟨#[121]⟩, .int .i64 b, .string ⟨#[120]⟩, .int .i64 7] : Array Value)[i]? = (nameRows (nNames a b))[i]?) := Lib.hid (fun i hi => by
    match i, hi with
    | 0, _ => rfl
    | 1, _ => rfl
    | 2, _ => rfl
    | 3, _ => rfl
    | 4, _ => rfl
    | 5, _ => rfl
    | (n + 6), hi => simp [nameRows, nNames] at hi; omega)
  have HN1 : Hid (∀ i : Nat, i < (nameRows [((⟨#[120]⟩ : ByteArray), a)]).length → (#[.string ⟨#[120]⟩, .int .i64 a, .string ⟨#[121]⟩, .int .i64 b, .string ⟨#[120]⟩, .int .i64 7] : Array Value)[i]? = (nameRows [((⟨#[120]⟩ : ByteArray), a)])[i]?) := Lib.hid (fun i hi => by
    match i, hi with
    | 0, _ => rfl
    | 1, _ => rfl
    | (n + 2), hi => simp [nameRows] at hi; omega)
  have NB : Hid (∀ x ∈ nNames a b, -9223372036854775808 ≤ x.2 ∧ x.2 ≤ 9223372036854775807) := Lib.hid (fun x hx => by
    simp only [nNames, List.mem_cons, List.not_mem_nil, or_false] at hx
    rcases hx with rfl | rfl | rfl <;> dsimp only <;> omega)
  have HB := Lib.hid BN
  have KA := Lib.hid (K2.out.alloc (.cells #[.string ⟨#[120]⟩, .int .i64 a, .string ⟨#[121]⟩, .int .i64 b, .string ⟨#[120]⟩, .int .i64 7] 36))
  have RA := Lib.hid (R2.out.keep ((Keep.refl _).alloc (.cells #[.string ⟨#[120]⟩, .int .i64 a, .string ⟨#[121]⟩, .int .i64 b, .string ⟨#[120]⟩, .int .i64 7] 36)))
  refine (HE.out p cap (some ⟨w2.heap.size, 0, none⟩) 3 nToks (nNames a b) 0 (by decide) (by decide) (by simp [nNames]) HC.out (by simp [nNames]) nOk NB.out _ RA.out (RowAt.names (.inr ⟨_, _, rfl, HB.out, HN3.out⟩)) (HP.out.keep KA.out)).mono ?_
  rintro e w3 ⟨hk3, ⟨v, z, hev, hv, hz, rfl⟩ | ⟨z, x, q, hev, hx, rfl, hf⟩⟩
  · have hs := Ev.same V1.out hev
    cases hs
    have K3 := Lib.hid (KA.out.trans hk3)
    have R3 := Lib.hid (RA.out.keep hk3)
    have B3 := Lib.hid (HB.out.keep hk3)
    clear hk3 hev hv hz BN
    go_wp2_with fail
    refine (HE.out p cap (some ⟨w2.heap.size, 0, none⟩) 3 nToks (nNames a b) 2 (by decide) (by decide) (by simp [nNames]) HC.out (by simp [nNames]) nOk NB.out _ R3.out (RowAt.names (.inr ⟨_, _, rfl, B3.out, HN3.out⟩)) (HP.out.keep K3.out)).mono ?_
    rintro e w4 ⟨hk4, ⟨v, z, hev, hv, hz, rfl⟩ | ⟨z, x, q, hev, hx, rfl, hf⟩⟩
    · have hs := Ev.same V2.out hev
      cases hs
      have K4 := Lib.hid (K3.out.trans hk4)
      have R4 := Lib.hid (R3.out.keep hk4)
      have B4 := Lib.hid (B3.out.keep hk4)
      clear hk4 hev hv hz
      go_wp2_with fail
      refine (HE.out p cap (some ⟨w2.heap.size, 0, none⟩) 3 nToks [(⟨#[120]⟩, a)] 0 (by decide) (by decide) (by simp) HC.out (by simp) nOk (by intro x hx; simp at hx; subst hx; dsimp only; omega) _ R4.out (RowAt.names (.inr ⟨_, _, rfl, B4.out, HN1.out⟩)) (HP.out.keep K4.out)).mono ?_
      rintro e w5 ⟨hk5, ⟨v, z, hev, hv, hz, rfl⟩ | ⟨z, x, q, hev, hx, rfl, hf⟩⟩
      · have hs := Ev.same V3.out hev
        cases hs
      · have K5 := Lib.hid (K4.out.trans hk5)
        unfold faultP
        clear hk5 hev hx hf
        go_wp2_with fail
        go_ret
        exact ⟨rfl, K5.out⟩
    · have hs := Ev.same V2.out hev
      cases hs
  · have hs := Ev.same V1.out hev
    cases hs
end Go.Proofs.YtockkidbncpdlaaDoor
