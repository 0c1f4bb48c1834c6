/- The reference's unary, where no sign stands ahead: a number, a name, or neither. -/
import Derived.Test.YtockkidbncpdlaaGreatDoorEvJoin2
import Derived.Test.YtockkidbncpdlaaGreatDoorEvMath
namespace Go.Proofs.YtockkidbncpdlaaGreatDoor
set_option linter.unusedVariables false
set_option linter.unusedSimpArgs false
open Go.RowKit
/-- What a reading leaves. -/
def EvPost (r : Rdr) (m : EvM) (d : Nat) (w : World) (x : Ending) (w' : World) : Prop :=
  KeepBut (fun z => z = r.b) w w' ∧
  ((∃ n p, Ev r.toks r.names m d (.ok n p) ∧ x = .returned (.int .i64 n) ∧ InB n ∧ m.at_ ≤ p ∧ p ≤ r.toks.length ∧ r.Ok w' p) ∨
   (∃ (p : Nat) (e v : Int), Ev r.toks r.names m d (.bad p e) ∧ x = .returned (.int .i64 v) ∧ InB v ∧ r.Bad w' p e))
theorem EvPost.ok {r : Rdr} {m : EvM} {d : Nat} {w w' : World} {n : Int} {p : Nat} (h : Ev r.toks r.names m d (.ok n p)) (hn : InB n) (h1 : m.at_ ≤ p) (h2 : p ≤ r.toks.length) (k : KeepBut (fun z => z = r.b) w w') (ho : r.Ok w' p) : EvPost r m d w (.returned (.int .i64 n)) w' :=
  ⟨k, .inl ⟨n, p, h, rfl, hn, h1, h2, ho⟩⟩
theorem EvPost.bad {r : Rdr} {m : EvM} {d : Nat} {w w' : World} {p : Nat} {e v : Int} (h : Ev r.toks r.names m d (.bad p e)) (hn : InB v) (k : KeepBut (fun z => z = r.b) w w') (ho : r.Bad w' p e) : EvPost r m d w (.returned (.int .i64 v)) w' :=
  ⟨k, .inr ⟨p, e, v, h, rfl, hn, ho⟩⟩
theorem InB.zero : InB 0 := by unfold InB; omega
theorem Rdr.Ok.next {r : Rdr} {w : World} {a : Int} (h : r.Ok w a) (b : Int) : r.Ok (w.setCell ⟨r.b, 1, none⟩ (.int .i64 b)) b := by
  unfold Rdr.Ok Rdr.cells at h ⊢
  simpa using Box.set h 1 (.int .i64 b)
theorem nameE_at (s : ByteArray) (n : Int) : ∀ (l : List (ByteArray × Int)) (k : Nat), l[k]? = some (s, n) → (∀ (j : Nat) (x : ByteArray × Int), j < k → l[j]? = some x → x.1 ≠ s) → nameE l s = some n
  | [], k, h, _ => by simp at h
  | (x, m) :: l, 0, h, _ => by
    simp at h
    obtain ⟨rfl, rfl⟩ := h
    simp [nameE]
  | (x, m) :: l, k + 1, h, hn => by
    have h0 := hn 0 (x, m) (by omega) rfl
    unfold nameE
    rw [if_neg h0]
    exact nameE_at s n l k (by simpa using h) fun j y hj hy => hn (j + 1) y (by omega) (by simpa using hy)
theorem nameE_no (s : ByteArray) : ∀ (l : List (ByteArray × Int)), (∀ (j : Nat) (x : ByteArray × Int), l[j]? = some x → x.1 ≠ s) → nameE l s = none
  | [], _ => rfl
  | (x, m) :: l, hn => by
    unfold nameE
    rw [if_neg (hn 0 (x, m) rfl)]
    exact nameE_no s l fun j y hy => hn (j + 1) y (by simpa using hy)
theorem unS_box (w : World) : Box (w.alloc (.cells #[.string ⟨#[45]⟩, .string ⟨#[126]⟩, .string ⟨#[40]⟩] 9)) w.heap.size (unS.map Value.string).toArray := Box.new _ _ _
set_option maxHeartbeats 2000000 in
set_option maxRecDepth 100000 in
theorem runary_atom (r : Rdr) (at_ d : Nat) (w : World) (hr : r.In w) (ho : r.Ok w at_) (ha : at_ ≤ r.toks.length) (hd : d ≤ 17) (hs : signAt r.toks at_ unS = none) :
    Calls Tryz.prog 30 #[.pointer (some ⟨r.b, 0, none⟩), .int .i64 d] w (EvPost r (.un at_) d w) := by
  have HS := Lib.hid hs
  have HR := Lib.hid hr
  have HO := Lib.hid ho
  have few := hr.few
  have cap := hr.cap
  have c0 := ho.cells
  unfold Rdr.cells at c0
  clear hs hr ho
  by_cases hp : at_ < r.toks.length
  · obtain ⟨t, ht⟩ : ∃ t, r.toks[at_]? = some t := ⟨_, List.getElem?_eq_getElem hp⟩
    have HT := Lib.hid ht
    have hpi : (at_ : Int) < (r.toks.length : Int) := by omega
    have hpd : decide (r.toks.length ≤ at_) = false := decide_eq_false (by omega)
    obtain ⟨g, hg, hgb, _⟩ := HR.out.tok ht
    clear ht
    by_cases k2 : t.kind = 2
    · have K2 := Lib.hid k2
      go_enter Tryz.func30, Tryz.ntmps30
      go_wp2_with fail
      refine (rsign_ok r at_ w.heap.size unS _ (HR.out.keep ((Keep.refl _).alloc _)) (Box.alloc HO.out _) (unS_box _) (by decide)).mono ?_
      rintro e w1 ⟨rfl, hk1⟩
      rw [HS.out]
      dsimp only [Option.getD_none]
      have K1 := Lib.hid (((Keep.refl _).alloc _).trans hk1)
      have b1 : r.Ok w1 at_ := Box.keep HO.out K1.out
      have O1 := Lib.hid b1
      have c1 := b1.cells
      have f1 := b1.thawed
      unfold Rdr.cells at c1
      rw [hg] at c1
      obtain ⟨g', hg', _, t0, t1, t2, t3⟩ := (HR.out.keep K1.out).tok HT.out
      rw [hg] at hg'
      simp only [Option.some.injEq, Addr.mk.injEq, and_true] at hg'
      subst hg'
      rw [k2] at t0
      clear k2
      clear c0 b1 hk1
      go_wp2_with fail
      go_ret
      refine EvPost.ok (p := at_ + 1) ?_ ?_ (by simp [EvM.at_]) hp ?_ ?_
      · have h := Ev.atom (N := r.names) (d := d) HT.out (.inl K2.out)
        unfold atomE at h
        rwa [if_pos K2.out] at h
      · exact HR.out.small t (List.mem_of_getElem? HT.out) K2.out
      · exact KeepBut.setAt (S := fun z => z = r.b) (.inl rfl) (K1.out.but _) _
      · have := O1.out.next ((at_ + 1 : Nat) : Int)
        simpa using this
    · have k2' : (t.kind != 2) = true := by simp [bne]; omega
      have k2e : (t.kind == 2) = false := beq_eq_false_iff_ne.2 k2
      have K2 := Lib.hid k2
      by_cases k1 : t.kind = 1
      · have K1' := Lib.hid k1
        go_enter Tryz.func30, Tryz.ntmps30
        go_wp2_with fail
        refine (rsign_ok r at_ w.heap.size unS _ (HR.out.keep ((Keep.refl _).alloc _)) (Box.alloc HO.out _) (unS_box _) (by decide)).mono ?_
        rintro e w1 ⟨rfl, hk1⟩
        rw [HS.out]
        dsimp only [Option.getD_none]
        have K1 := Lib.hid (((Keep.refl _).alloc _).trans hk1)
        have b1 : r.Ok w1 at_ := Box.keep HO.out K1.out
        have O1 := Lib.hid b1
        have c1 := b1.cells
        have f1 := b1.thawed
        unfold Rdr.cells at c1
        rw [hg] at c1
        obtain ⟨g', hg', _, t0, t1, t2, t3⟩ := (HR.out.keep K1.out).tok HT.out
        rw [hg] at hg'
        simp only [Option.some.injEq, Addr.mk.injEq, and_true] at hg'
        subst hg'
        rw [k1] at t0
        clear k1 k2 k2' k2e
        clear c0 b1 hk1 t1 t2 t3
        go_wp2_with fail
        have W2e : ∃ W2, W2 = w1.setCell ⟨r.b, 1, none⟩ (.int .i64 ((at_ : Int) + 1)) := ⟨_, rfl⟩
        obtain ⟨W2, hW2⟩ := W2e
        rw [← hW2]
        have o2 : r.Ok W2 ((at_ : Int) + 1) := by rw [hW2]; exact O1.out.next _
        have K2b : KeepBut (fun z => z = r.b) w W2 := by rw [hW2]; exact KeepBut.setAt (S := fun z => z = r.b) (.inl rfl) (K1.out.but _) _
        have KB := Lib.hid K2b
        have O2 := Lib.hid o2
        clear hW2 o2 K2b c1 f1 t0
        have HG := Lib.hid hg
        have fewN := HR.out.fewN
        have capN := HR.out.capN
        go_loopw [10] (fun i wr => ∃ k : Nat, k ≤ r.names.length ∧ i = .int .i64 (k : Int) ∧ (∀ (j : Nat) (x : ByteArray × Int), j < k → r.names[j]? = some x → x.1 ≠ t.text) ∧ Keep W2 wr) (fun i _ => r.names.length - (intOf i).toNat)
        case atStart => exact ⟨0, Nat.zero_le _, rfl, fun j x hj => absurd hj (by omega), Keep.refl _⟩
        case round =>
          obtain ⟨k, hk, rfl, hno, hK⟩ := hrel
          have HN := Lib.hid hno
          have HK := Lib.hid hK
          have o3 : r.Ok wr ((at_ : Int) + 1) := Box.keep O2.out hK
          have O3 := Lib.hid o3
          have c3 := o3.cells
          unfold Rdr.cells at c3
          rw [hg] at c3
          clear hno hK o3
          by_cases h : k < r.names.length
          · obtain ⟨x, hx⟩ : ∃ x, r.names[k]? = some x := ⟨_, List.getElem?_eq_getElem h⟩
            have HX := Lib.hid hx
            have hki : (k : Int) < (r.names.length : Int) := by omega
            obtain ⟨gn, hgn, hgnb, _⟩ := HR.out.name hx
            rw [hgn] at c3
            clear hx
            rcases Bool.eq_false_or_eq_true (x.1.toList == t.text.toList) with dd | dd
            · have e : x.1 = t.text := by
                rw [str_beq2] at dd
                exact of_decide_eq_true dd
              have HE2 := Lib.hid e
              clear e
              go_wp2_with fail
              refine region_grows (Keep wr) (by kernel_rfl) (by kernel_rfl) (Keep.refl _).drew ?_
              repeat (first
                | (apply text_pass (by rfl); go_simp)
                | (apply text_step (by rfl)
                   · intro W hW
                     have c := Box.cells (Box.keep O3.out hW)
                     unfold Rdr.cells at c
                     rw [HG.out, hgn] at c
                     obtain ⟨g', hg', _, n0, n1⟩ := ((HR.out.but KB.out).keep (HK.out.trans hW)).name HX.out
                     rw [hgn] at hg'
                     simp only [Option.some.injEq, Addr.mk.injEq, and_true] at hg'
                     subst hg'
                     obtain ⟨g2, hg2, _, t0, t1, t2, t3⟩ := ((HR.out.but KB.out).keep (HK.out.trans hW)).tok HT.out
                     rw [HG.out] at hg2
                     simp only [Option.some.injEq, Addr.mk.injEq, and_true] at hg2
                     subst hg2
                     go_simp
                     exact ⟨rfl, hW⟩
                   go_simp))
              apply text_end
              intro W hW
              have kW := HK.out.trans hW
              have oW : r.Ok W ((at_ : Int) + 1) := Box.keep O3.out hW
              have cW := oW.cells
              unfold Rdr.cells at cW
              rw [HG.out, hgn] at cW
              obtain ⟨g', hg', _, n0, n1⟩ := ((HR.out.but KB.out).keep kW).name HX.out
              rw [hgn] at hg'
              simp only [Option.some.injEq, Addr.mk.injEq, and_true] at hg'
              subst hg'
              have KW := Lib.hid (KB.out.trans (kW.but _))
              have CB := Lib.hid (rbound_any r _ x.2 at_ W oW)
              have OW := Lib.hid oW
              have HEv : Hid (nameE r.names t.text = some x.2) := Lib.hid (nameE_at _ _ _ k (by rw [HX.out, ← HE2.out]) HN.out)
              clear hW kW oW c3
              go_wp2_with fail
              refine CB.out.mono ?_
              intro e w4 hj
              have EA := Lib.hid (Ev.atom (N := r.names) (d := d) HT.out (.inr K1'.out))
              cases hbn : boundE x.2 with
              | none =>
                have HB2 := Lib.hid hbn
                rw [hbn] at hj
                obtain ⟨rfl, hk4, hb4⟩ := hj
                have H4 := Lib.hid hk4
                have B4 := Lib.hid hb4
                clear hbn hk4 hb4 cW n0 n1
                go_wp2_with fail
                go_ret
                refine EvPost.bad (p := at_) ?_ InB.zero (KW.out.trans H4.out) B4.out
                have h := EA.out
                unfold atomE at h
                rw [if_neg (by rw [K1'.out]; decide), HEv.out] at h
                simp only [HB2.out] at h
                exact h
              | some m =>
                have HB2 := Lib.hid hbn
                rw [hbn] at hj
                obtain ⟨rfl, rfl⟩ := hj
                clear hbn cW n0 n1
                go_wp2_with fail
                go_ret
                refine EvPost.ok (p := at_ + 1) ?_ ?_ (by simp [EvM.at_]) hp KW.out ?_
                · have h := EA.out
                  unfold atomE at h
                  rw [if_neg (by rw [K1'.out]; decide), HEv.out] at h
                  simp only [HB2.out] at h
                  exact h
                · have := HB2.out
                  unfold boundE lxBig at this
                  split at this
                  · cases this
                  · cases this; unfold InB; omega
                · have := OW.out
                  simpa using this
            · have HS2 : Hid (∀ (j : Nat) (y : ByteArray × Int), j < k + 1 → r.names[j]? = some y → y.1 ≠ t.text) := Lib.hid (fun j y hj hy => by
                by_cases e : j = k
                · subst e
                  rw [HX.out] at hy
                  cases hy
                  intro hc
                  rw [str_beq2, hc] at dd
                  simp at dd
                · exact HN.out j y (by omega) hy)
              go_wp2_with fail
              refine region_grows (Keep wr) (by kernel_rfl) (by kernel_rfl) (Keep.refl _).drew ?_
              repeat (first
                | (apply text_pass (by rfl); go_simp)
                | (apply text_step (by rfl)
                   · intro W hW
                     have c := Box.cells (Box.keep O3.out hW)
                     unfold Rdr.cells at c
                     rw [HG.out, hgn] at c
                     obtain ⟨g', hg', _, n0, n1⟩ := ((HR.out.but KB.out).keep (HK.out.trans hW)).name HX.out
                     rw [hgn] at hg'
                     simp only [Option.some.injEq, Addr.mk.injEq, and_true] at hg'
                     subst hg'
                     obtain ⟨g2, hg2, _, t0, t1, t2, t3⟩ := ((HR.out.but KB.out).keep (HK.out.trans hW)).tok HT.out
                     rw [HG.out] at hg2
                     simp only [Option.some.injEq, Addr.mk.injEq, and_true] at hg2
                     subst hg2
                     go_simp
                     exact ⟨rfl, hW⟩
                   go_simp))
              apply text_end
              intro W hW
              have HW2 := Lib.hid (HK.out.trans hW)
              clear hW
              go_wp2_with fail
              go_roundw
              case rel => exact ⟨k + 1, h, by go_num, HS2.out, HW2.out⟩
              case measure => simp [intOf]; omega
          · obtain rfl : k = r.names.length := by omega
            have CF := Lib.hid (rfail_ok r _ at_ 12 (by decide) wr O3.out)
            go_wp2_with fail
            refine CF.out.mono ?_
            rintro e w4 ⟨rfl, hk4, hb4⟩
            have H4 := Lib.hid hk4
            have B4 := Lib.hid hb4
            clear hk4 hb4 c3
            go_wp2_with fail
            go_ret
            refine EvPost.bad (p := at_) ?_ InB.zero ((KB.out.trans (HK.out.but _)).trans H4.out) B4.out
            have h := Ev.atom (N := r.names) (d := d) HT.out (.inr K1'.out)
            unfold atomE at h
            rw [if_neg (by rw [K1'.out]; decide), nameE_no _ _ (fun j x hj => HN.out j x (List.getElem?_eq_some_iff.1 hj).1 hj)] at h
            exact h
      · have k1' : (t.kind != 1) = true := by simp [bne]; omega
        have K1' := Lib.hid k1
        go_enter Tryz.func30, Tryz.ntmps30
        go_wp2_with fail
        refine (rsign_ok r at_ w.heap.size unS _ (HR.out.keep ((Keep.refl _).alloc _)) (Box.alloc HO.out _) (unS_box _) (by decide)).mono ?_
        rintro e w1 ⟨rfl, hk1⟩
        rw [HS.out]
        dsimp only [Option.getD_none]
        have K1 := Lib.hid (((Keep.refl _).alloc _).trans hk1)
        have b1 : r.Ok w1 at_ := Box.keep HO.out K1.out
        have O1 := Lib.hid b1
        have CF := Lib.hid (rfail_ok r _ at_ 11 (by decide) w1 b1)
        have c1 := b1.cells
        have f1 := b1.thawed
        unfold Rdr.cells at c1
        rw [hg] at c1
        obtain ⟨g', hg', _, t0, t1, t2, t3⟩ := (HR.out.keep K1.out).tok HT.out
        rw [hg] at hg'
        simp only [Option.some.injEq, Addr.mk.injEq, and_true] at hg'
        subst hg'
        clear k1 k2 c0 b1 hk1
        go_wp2_with fail
        refine CF.out.mono ?_
        rintro e w4 ⟨rfl, hk4, hb4⟩
        have H4 := Lib.hid hk4
        have B4 := Lib.hid hb4
        clear hk4 hb4 c1 t0 t1 t2 t3
        go_wp2_with fail
        go_ret
        refine EvPost.bad (p := at_) (.form HS.out ?_) InB.zero ((K1.out.but _).trans H4.out) B4.out
        intro u hu
        have h := HT.out
        rw [h] at hu
        cases hu
        exact ⟨K2.out, K1'.out⟩
  · have CF0 := Lib.hid (fun (w1 : World) (h : r.Ok w1 at_) => rfail_ok r _ at_ 11 (by decide) w1 h)
    have hpi : (r.toks.length : Int) ≤ (at_ : Int) := by omega
    have hpd : decide (r.toks.length ≤ at_) = true := decide_eq_true (by omega)
    go_enter Tryz.func30, Tryz.ntmps30
    go_wp2_with fail
    refine (rsign_ok r at_ w.heap.size unS _ (HR.out.keep ((Keep.refl _).alloc _)) (Box.alloc HO.out _) (unS_box _) (by decide)).mono ?_
    rintro e w1 ⟨rfl, hk1⟩
    rw [HS.out]
    dsimp only [Option.getD_none]
    have K1 := Lib.hid (((Keep.refl _).alloc _).trans hk1)
    have b1 : r.Ok w1 at_ := Box.keep HO.out K1.out
    have O1 := Lib.hid b1
    have c1 := b1.cells
    have CF := Lib.hid (CF0.out w1 b1)
    unfold Rdr.cells at c1
    clear c0 b1 hk1
    go_wp2_with fail
    refine CF.out.mono ?_
    rintro e w4 ⟨rfl, hk4, hb4⟩
    have H4 := Lib.hid hk4
    have B4 := Lib.hid hb4
    clear hk4 hb4 c1
    go_wp2_with fail
    go_ret
    refine EvPost.bad (p := at_) (.form HS.out ?_) InB.zero ((K1.out.but _).trans H4.out) B4.out
    intro u hu
    rw [List.getElem?_eq_none (by omega)] at hu
    cases hu
end Go.Proofs.YtockkidbncpdlaaGreatDoor
