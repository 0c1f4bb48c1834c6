/- ImgPFau, ImgPRdr, ImgPNum, ImgPUp, ImgPSi: The program's fault: an Errno of a part, or nothing; what a check answers. -/
import Derived.Test.YtmcbeclkocjlkaaDoorGRdrC
import Derived.Test.YtmcbeclkocjlkaaDoorImgAt
import Derived.Test.YtmcbeclkocjlkaaDoorConvB
import Derived.Laws.BytesArg
/- The program's fault: an Errno of a part, or nothing; what a check answers. -/
namespace Go.Proofs.YtmcbeclkocjlkaaDoor
set_option linter.unusedVariables false
set_option linter.unusedSimpArgs false
open Go.RowKit Go.Extern.Stop Go.Stop Go.Extern
theorem ifault_zero (part : ByteArray) (at_ : Int) (w : World) :
    Calls Tryd.prog 31 #[.string part, .int .i64 at_, .int .i64 0] w fun e w' => e = .returned .nilIface ∧ Keep w w' := by
  go_enter Tryd.func31, Tryd.ntmps31
  go_wp2_with fail
  refine (is_wrapped _ part at_ 0 _ (Box.new _ _ _)).mono ?_
  rintro e w1 ⟨rfl, hk1⟩
  go_wp2_with fail
  go_ret
  exact ⟨rfl, ((Keep.refl _).alloc _).trans hk1⟩
theorem ifault_not (part : ByteArray) (at_ n : Int) (hn : ¬ n = 0) (w : World) :
    Calls Tryd.prog 31 #[.string part, .int .i64 at_, .int .i64 n] w fun e w' => ∃ q, e = .returned (faultP q) ∧ w.heap.size ≤ q ∧ Box w' q #[.string part, .int .i64 at_, .iface 68 (.int .i64 n)] ∧ Keep w w' := by
  unfold faultP
  go_enter Tryd.func31, Tryd.ntmps31
  go_wp2_with fail
  refine (is_otherO _ part at_ n 0 hn _ (Box.new _ _ _)).mono ?_
  rintro e w1 ⟨rfl, hk1⟩
  have B1 := (Box.new w #[.string part, .int .i64 at_, .iface 68 (.int .i64 n)] 66).keep hk1
  go_wp2_with fail
  go_ret
  exact ⟨_, rfl, Nat.le_refl _, B1, ((Keep.refl _).alloc _).trans hk1⟩
theorem ifault_any (part : ByteArray) (at_ n : Int) (w : World) :
    Calls Tryd.prog 31 #[.string part, .int .i64 at_, .int .i64 n] w fun e w' => ∃ v, e = .returned v ∧ FauR part at_ n w' v ∧ Keep w w' := by
  by_cases hn : n = 0
  · subst hn
    refine (ifault_zero part at_ w).mono ?_
    rintro e w' ⟨rfl, hk⟩
    exact ⟨_, rfl, .inl ⟨rfl, rfl⟩, hk⟩
  · refine (ifault_not part at_ n hn w).mono ?_
    rintro e w' ⟨q, rfl, _, hB, hk⟩
    exact ⟨_, rfl, .inr ⟨q, hn, rfl, hB⟩, hk⟩
/-- What a check answers. -/
def IChk (w : World) (x : WrV) (e : Ending) (w' : World) : Prop := ∃ v, e = .returned v ∧ OErr w' v x ∧ Keep w w'
theorem FauR.ierr {part : ByteArray} {a n : Int} {w : World} {q : Nat} (hn : n ≠ 0) (hB : Box w q #[.string part, .int .i64 a, .iface 68 (.int .i64 n)]) : OErr w (faultP q) (part, a, n) :=
  .inr ⟨q, part, a, n, hn, rfl, rfl, hB⟩
theorem IChk.nil {w w' : World} (k : Keep w w') : IChk w okW (.returned .nilIface) w' := ⟨_, rfl, .isOk, k⟩
theorem IChk.bad {w w' : World} {part : ByteArray} {a n : Int} {q : Nat} (hn : n ≠ 0) (hB : Box w' q #[.string part, .int .i64 a, .iface 68 (.int .i64 n)]) (k : Keep w w') : IChk w (part, a, n) (.returned (faultP q)) w' := ⟨_, rfl, FauR.ierr hn hB, k⟩
/-- Of an Errno: no error if it is OK. -/
def errW (t : ByteArray) (a n : Int) : WrV := if n = 0 then okW else (t, a, n)
theorem errW_zero (t : ByteArray) (a : Int) : errW t a 0 = okW := rfl
theorem errW_not {t : ByteArray} {a n : Int} (h : n ≠ 0) : errW t a n = (t, a, n) := if_neg h
/-- What fault answers is what a check answers. -/
theorem ifault_chk (part : ByteArray) (at_ n : Int) (w : World) : Calls Tryd.prog 31 #[.string part, .int .i64 at_, .int .i64 n] w (IChk w (errW part at_ n)) := by
  by_cases hn : n = 0
  · subst hn
    refine (ifault_zero part at_ w).mono ?_
    rintro e w' ⟨rfl, hk⟩
    exact IChk.nil hk
  · refine (ifault_not part at_ n hn w).mono ?_
    rintro e w' ⟨q, rfl, _, hB, hk⟩
    rw [errW_not hn]
    exact IChk.bad hn hB hk
end Go.Proofs.YtmcbeclkocjlkaaDoor

/- The program's refuse, take. -/
namespace Go.Proofs.YtmcbeclkocjlkaaDoor
set_option linter.unusedVariables false
set_option linter.unusedSimpArgs false
open Go Go.RowKit
set_option maxHeartbeats 4000000 in
set_option maxRecDepth 100000 in
theorem irefuse_any (r : Nat) (vb : Value) (l : List Nat) (S : RSt) (a c : Int) (hc : c ≠ 0) (w : World) (h : RdSt w r vb l S) :
    Calls Tryd.prog 69 #[.pointer (some ⟨r, 0, none⟩), .int .i64 a, .int .i64 c] w fun e w' => e = .returned (.tuple #[]) ∧ RdSt w' r vb l (S.refuse a c) ∧ KeepBut (fun z => z = r) w w' := by
  cases S with
  | error e =>
    obtain ⟨a1, c1⟩ := e
    obtain ⟨q, p, h1, h2, h3, h4, h5⟩ := h
    have c0 := h4.cells
    unfold faultP at c0
    have H : Hid (RdSt w r vb l (.error (a1, c1))) := Lib.hid ⟨q, p, h1, h2, h3, h4, h5⟩
    clear h1 h2 h3 h4 h5
    go_enter Tryd.func69, Tryd.ntmps69
    go_wp2_with fail
    go_end0
    exact ⟨rfl, H.out, KeepBut.refl _ _⟩
  | ok p =>
    obtain ⟨h1, h2⟩ := h
    have c0 := h2.cells
    have HB := Lib.hid h2
    have HP := Lib.hid h1
    have HC := Lib.hid hc
    clear h1 h2 hc
    go_enter Tryd.func69, Tryd.ntmps69
    go_wp2_with fail
    refine (ifault_not _ _ _ HC.out _).mono ?_
    rintro e w1 ⟨q, rfl, hq, hB, hk⟩
    have B1 := HB.out.keep hk
    have c1 := B1.cells
    have f1 := B1.thawed
    have HB1 := Lib.hid B1
    have HQ := Lib.hid hB
    have HK := Lib.hid hk
    have NQ := Lib.hid (show q ≠ r from fun e => by have := HB.out.lt; omega)
    clear hB hk B1 hq c0
    unfold faultP
    go_wp2_with fail
    go_end0
    refine ⟨rfl, ⟨q, p, HP.out, NQ.out, HC.out, ?_, HQ.out.other NQ.out _⟩, KeepBut.setAt (S := fun z => z = r) (.inl rfl) (HK.out.but _) _⟩
    simpa [faultP] using HB1.out.set 2 (faultP q)
set_option maxHeartbeats 4000000 in
set_option maxRecDepth 100000 in
theorem itake_any (w0 : World) (r : Nat) (vb : Value) (l : List Nat) (hx : RCtx w0 r vb l) (S : RSt) (n : Nat) (hn : n ≤ 4294967296) (w : World) (h : RdSt w r vb l S) :
    Calls Tryd.prog 52 #[.pointer (some ⟨r, 0, none⟩), .int .i64 (n : Int)] w (RdPost r vb l (S.run fun p => takeR l n p) (TakeV w0 n) w) := by
  have HX := Lib.hid hx
  have few := hx.few
  have lies := Lib.hid hx.lies
  obtain ⟨vp, vc, rfl, hvc, hvm, _⟩ := hx.lies
  clear hx
  cases S with
  | error e =>
    obtain ⟨a1, c1⟩ := e
    rw [RSt.run_bad]
    have H := Lib.hid h
    obtain ⟨q, p, h1, h2, h3, h4, h5⟩ := h
    have c0 := h4.cells
    unfold faultP at c0
    have HB := Lib.hid h4
    have hw : IntKind.i64.wrap ((l.length : Int) - (p : Int)) = (l.length : Int) - (p : Int) := by rw [IntKind.wrap_i64]; omega
    clear h2 h3 h4 h5
    by_cases hl : (l.length : Int) - (p : Int) < (n : Int)
    · have hd : decide ((l.length : Int) - (p : Int) < (n : Int)) = true := decide_eq_true hl
      go_enter Tryd.func52, Tryd.ntmps52
      go_wp2_with fail
      refine region_grows (Keep w) (by kernel_rfl) (by kernel_rfl) (Keep.refl _).drew ?_
      repeat (first
        | (apply text_pass (by rfl); go_simp)
        | (apply text_step (by rfl)
           · intro W hW
             have c1 := (HB.out.keep hW).cells
             unfold faultP at c1
             go_simp
             exact ⟨rfl, hW⟩
           go_simp))
      apply text_end
      intro W hW
      have H1 := Lib.hid (H.out.keep hW)
      have HW := Lib.hid hW
      have c1 := (HB.out.keep hW).cells
      unfold faultP at c1
      clear hW c0
      go_wp2_with fail
      refine (irefuse_any r _ l (.error (a1, _)) _ 16 (by decide) _ H1.out).mono ?_
      rintro e w2 ⟨rfl, h2, hk2⟩
      have H2 := Lib.hid h2
      have K2 : Hid (KeepBut (fun z => z = r) w w2) := Lib.hid ((HW.out.but _).trans hk2)
      obtain ⟨q2, p2, _, _, _, h4, _⟩ := h2
      have c2 := h4.cells
      unfold faultP at c2
      clear c1 hk2 h4
      go_wp2_with fail
      go_ret
      exact ⟨_, [], .error (a1, _), rfl, TakeV.none _ _ _, H2.out, rfl, K2.out⟩
    · have hd : decide ((l.length : Int) - (p : Int) < (n : Int)) = false := decide_eq_false hl
      go_enter Tryd.func52, Tryd.ntmps52
      go_wp2_with fail
      refine region_grows (Keep w) (by kernel_rfl) (by kernel_rfl) (Keep.refl _).drew ?_
      repeat (first
        | (apply text_pass (by rfl); go_simp)
        | (apply text_step (by rfl)
           · intro W hW
             have c1 := (HB.out.keep hW).cells
             unfold faultP at c1
             go_simp
             exact ⟨rfl, hW⟩
           go_simp))
      apply text_end
      intro W hW
      have H1 := Lib.hid (H.out.keep hW)
      have HW := Lib.hid hW
      have c1 := (HB.out.keep hW).cells
      unfold faultP at c1
      clear hW c0
      go_wp2_with fail
      go_ret
      exact ⟨_, [], .error (a1, _), rfl, TakeV.none _ _ _, H1.out, rfl, HW.out.but _⟩
  | ok p =>
    rw [RSt.run_ok]
    have H := Lib.hid h
    obtain ⟨h1, h4⟩ := h
    have c0 := h4.cells
    have HB := Lib.hid h4
    have hw : IntKind.i64.wrap ((l.length : Int) - (p : Int)) = (l.length : Int) - (p : Int) := by rw [IntKind.wrap_i64]; omega
    clear h4
    by_cases hl : (l.length : Int) - (p : Int) < (n : Int)
    · have hd : decide ((l.length : Int) - (p : Int) < (n : Int)) = true := decide_eq_true hl
      have HE : Hid (takeR l n p = .error ((l.length : Int), 16)) := Lib.hid (by unfold takeR; rw [if_neg (by omega)])
      go_enter Tryd.func52, Tryd.ntmps52
      go_wp2_with fail
      refine region_grows (Keep w) (by kernel_rfl) (by kernel_rfl) (Keep.refl _).drew ?_
      repeat (first
        | (apply text_pass (by rfl); go_simp)
        | (apply text_step (by rfl)
           · intro W hW
             have c1 := (HB.out.keep hW).cells
             go_simp
             exact ⟨rfl, hW⟩
           go_simp))
      apply text_end
      intro W hW
      have H1 := Lib.hid (H.out.keep hW)
      have HW := Lib.hid hW
      have c1 := (HB.out.keep hW).cells
      clear hW c0
      go_wp2_with fail
      refine (irefuse_any r _ l (.ok p) _ 16 (by decide) _ H1.out).mono ?_
      rintro e w2 ⟨rfl, h2, hk2⟩
      have H2 := Lib.hid h2
      have K2 : Hid (KeepBut (fun z => z = r) w w2) := Lib.hid ((HW.out.but _).trans hk2)
      obtain ⟨q2, p2, _, _, _, h4, _⟩ := h2
      have c2 := h4.cells
      unfold faultP at c2
      clear c1 hk2 h4
      go_wp2_with fail
      go_ret
      exact ⟨_, [], .error ((l.length : Int), 16), rfl, TakeV.none _ _ _, H2.out, by rw [HE.out] <;> rfl, K2.out⟩
    · have hd : decide ((l.length : Int) - (p : Int) < (n : Int)) = false := decide_eq_false hl
      have hpn : p + n ≤ l.length := by omega
      have hwp : IntKind.i64.wrap (p : Int) = (p : Int) := by rw [IntKind.wrap_i64]; omega
      have HE : Hid (takeR l n p = .ok ((l.drop p).take n, p + n)) := Lib.hid (by unfold takeR; rw [if_pos hpn])
      have LB : ((l.drop p).take n).length = n := by simp; omega
      have HL := Lib.hid LB
      clear LB
      obtain ⟨V, hV⟩ : ∃ V, V = sliced vp p (p + n) vc 1 := ⟨_, rfl⟩
      have SL := Lib.hid (fun W => slice_u8 vp l.length vc p n (by omega) W)
      have HV : Hid (TakeV w0 n w ((l.drop p).take n) V) := Lib.hid ⟨by rw [hV, HL.out]; exact SlAt.sliced lies.out rfl p n hpn, fun x hx => HX.out.bytes x (List.mem_of_mem_drop (List.mem_of_mem_take hx)), .inr HL.out⟩
      rw [← hV] at SL
      clear hV
      go_enter Tryd.func52, Tryd.ntmps52
      go_wp2_with fail
      refine region_grows (Keep w) (by kernel_rfl) (by kernel_rfl) (Keep.refl _).drew ?_
      repeat (first
        | (apply text_pass (by rfl); go_simp)
        | (apply text_step (by rfl)
           · intro W hW
             have c1 := (HB.out.keep hW).cells
             go_simp
             exact ⟨rfl, hW⟩
           go_simp))
      apply text_end
      intro W hW
      have HW := Lib.hid hW
      have B1 := HB.out.keep hW
      have c1 := B1.cells
      have f1 := B1.thawed
      have N1 := Lib.hid (B1.set 1 (.int .i64 ((p : Int) + (n : Int))))
      clear hW c0 B1
      go_wp2_with fail
      have B2 : Hid (Box (W.setCell ⟨r, 1, none⟩ (.int .i64 ((p : Int) + (n : Int)))) r #[.slice vp l.length vc, .int .i64 ((p : Int) + (n : Int)), .nilIface]) := Lib.hid (by simpa using N1.out)
      have K2 : Hid (KeepBut (fun z => z = r) w (W.setCell ⟨r, 1, none⟩ (.int .i64 ((p : Int) + (n : Int))))) := Lib.hid (KeepBut.setAt (S := fun z => z = r) (.inl rfl) (HW.out.but _) _)
      obtain ⟨W2, hW2⟩ : ∃ W2, W2 = W.setCell ⟨r, 1, none⟩ (.int .i64 ((p : Int) + (n : Int))) := ⟨_, rfl⟩
      rw [← hW2] at B2 K2 ⊢
      clear hW2 N1 c1 f1
      refine region_grows (Keep W2) (by kernel_rfl) (by kernel_rfl) (Keep.refl _).drew ?_
      repeat (first
        | (apply text_pass (by rfl); go_simp)
        | (apply text_step (by rfl)
           · intro W hW
             have c1 := (B2.out.keep hW).cells
             have sl := SL.out
             go_simp
             exact ⟨rfl, hW⟩
           go_simp))
      apply text_end
      intro W5 hW5
      have K5 := Lib.hid (K2.out.trans (hW5.but _))
      have B5 := Lib.hid (B2.out.keep hW5)
      clear hW5
      go_wp2_with fail
      go_ret
      exact ⟨V, (l.drop p).take n, .ok (p + n), rfl, HV.out, ⟨hpn, by simpa using B5.out⟩, by rw [HE.out] <;> exact ⟨rfl, rfl⟩, K5.out⟩
end Go.Proofs.YtmcbeclkocjlkaaDoor

/- The program's number of some bytes. -/
namespace Go.Proofs.YtmcbeclkocjlkaaDoor
set_option linter.unusedVariables false
set_option linter.unusedSimpArgs false
open Go Go.RowKit
set_option maxHeartbeats 4000000 in
set_option maxRecDepth 100000 in
theorem inumber_any (w0 : World) (r : Nat) (vb : Value) (l : List Nat) (hx : RCtx w0 r vb l) (S : RSt) (n : Nat) (hn : n = 1 ∨ n = 4) (w : World) (h : RdSt w r vb l S) (k0 : Keep w0 w) :
    Calls Tryd.prog 46 #[.pointer (some ⟨r, 0, none⟩), .int .i64 (n : Int)] w (RdPost r vb l (S.run (numRN l n)) (NumV n) w) := by
  have CT := Lib.hid (itake_any w0 r vb l hx S n (by omega) w h)
  have HN := Lib.hid hx.new
  have HK0 := Lib.hid k0
  have HM := Lib.hid hn
  clear h hx k0 hn
  go_enter Tryd.func46, Tryd.ntmps46
  go_wp2_with fail
  refine CT.out.mono ?_
  rintro e w1 ⟨v, bs, S', rfl, ⟨hsl, hb, hlen⟩, hst, hgot, hk⟩
  have K1 := Lib.hid (HK0.out.butNew hk (fun x hx => by rw [hx]; exact HN.out))
  have ST := Lib.hid hst
  have HK := Lib.hid hk
  have G : Hid (Got (S.run (numRN l n)) (numB n bs) S') := Lib.hid (by
    have e := Got.next (fun b q => (.ok (numB n b, q) : Rd Nat)) hgot
    unfold numRN
    rw [e]
    exact Got.last _)
  have HSL := Lib.hid (hsl.keep K1.out)
  clear hst hgot hk hsl CT
  rcases hlen with rfl | hlen
  · obtain ⟨p, cap, rfl, _, _, _⟩ := HSL.out
    go_wp2_with fail
    refine wp_loop_rounds 1 ?_
    rw [rounds_succ]
    go_wp2_with fail
    go_ret
    refine ⟨_, numB n [], S', rfl, ⟨?_, ?_, ?_⟩, ST.out, G.out, HK.out⟩
    · rcases HM.out with rfl | rfl <;> rfl
    · rcases HM.out with rfl | rfl <;> decide
    · intro e; subst e; decide
  · obtain ⟨p, cap, rfl, hcap, _, hc⟩ := HSL.out
    rcases hc with hc | ⟨g, off, rfl, _, hc⟩
    · exfalso
      have := List.map_eq_nil_iff.1 hc
      subst this
      have := HM.out
      simp at hlen
      omega
    rcases HM.out with rfl | rfl
    · match bs, hlen with
      | [a], _ =>
        have ha := hb a (by simp)
        have c0 := hc 0 _ rfl
        simp only [Nat.add_zero, byteV] at c0
        have HA := Lib.hid ha
        simp only [List.length_cons, List.length_nil, Nat.zero_add] at hcap
        clear hc hb
        go_wp2_with fail
        refine wp_loop_rounds 2 ?_
        rw [rounds_succ]
        go_wp2_with fail
        rw [rounds_succ]
        go_wp2_with fail
        go_ret
        exact ⟨.int .u32 (a : Int), a, S', congrArg (fun z => Ending.returned (Value.int .u32 z)) (or_zero a HA.out), ⟨rfl, by have := HA.out; omega, fun _ => HA.out⟩, ST.out, G.out, HK.out⟩
    · match bs, hlen with
      | [a, b, c, d], _ =>
        have ha := hb a (by simp)
        have hb2 := hb b (by simp)
        have hc2 := hb c (by simp)
        have hd := hb d (by simp)
        have c0 := hc 0 _ rfl
        have c1 := hc 1 _ rfl
        have c2 := hc 2 _ rfl
        have c3 := hc 3 _ rfl
        simp only [Nat.add_zero, byteV] at c0 c1 c2 c3
        have OR := Lib.hid (or_four a b c d ha hb2 hc2 hd)
        have WB : Hid (a + b * 256 + c * 65536 + d * 16777216 < 4294967296) := Lib.hid (by omega)
        simp only [List.length_cons, List.length_nil, Nat.zero_add] at hcap
        clear hc hb
        go_wp2_with fail
        refine wp_loop_rounds 5 ?_
        rw [rounds_succ]
        go_wp2_with fail
        rw [rounds_succ]
        go_wp2_with fail
        rw [rounds_succ]
        go_wp2_with fail
        rw [rounds_succ]
        go_wp2_with fail
        rw [rounds_succ]
        go_wp2_with fail
        go_ret
        exact ⟨.int .u32 ((a + b * 256 + c * 65536 + d * 16777216 : Nat) : Int), _, S', congrArg (fun z => Ending.returned (Value.int .u32 z)) OR.out, ⟨rfl, WB.out, fun h => (nomatch h)⟩, ST.out, G.out, HK.out⟩
end Go.Proofs.YtmcbeclkocjlkaaDoor

/- The program's upTo, count, index, text; begin, end. -/
namespace Go.Proofs.YtmcbeclkocjlkaaDoor
set_option linter.unusedVariables false
set_option linter.unusedSimpArgs false
open Go Go.RowKit
set_option maxHeartbeats 4000000 in
set_option maxRecDepth 100000 in
theorem iupto_any (w0 : World) (r : Nat) (vb : Value) (l : List Nat) (hx : RCtx w0 r vb l) (S : RSt) (n most : Nat) (c : Int) (hn : n = 1 ∨ n = 4) (hm : most < 4294967296) (hc : c ≠ 0) (w : World) (h : RdSt w r vb l S) (k0 : Keep w0 w) :
    Calls Tryd.prog 70 #[.pointer (some ⟨r, 0, none⟩), .int .i64 (n : Int), .int .u32 (most : Int), .int .i64 c] w (RdPost r vb l (S.run (withR l n 0 most c)) (WithV most) w) := by
  have CN := Lib.hid (inumber_any w0 r vb l hx S n hn w h k0)
  obtain ⟨p, u, hB, hat⟩ := h.box
  have c0 := hB.cells
  have HA := Lib.hid hat
  have HC := Lib.hid hc
  clear hx h k0 hB hat hc
  go_enter Tryd.func70, Tryd.ntmps70
  go_wp2_with fail
  refine CN.out.mono ?_
  rintro e w1 ⟨v, a, S', rfl, ⟨rfl, ha, _⟩, hst, hgot, hk⟩
  have ST := Lib.hid hst
  have HG := Lib.hid hgot
  have HK := Lib.hid hk
  clear hst hgot hk CN c0
  by_cases ho : most < a
  · have CR := Lib.hid (irefuse_any r vb l S' (p : Int) c HC.out w1 ST.out)
    have GX := Lib.hid (withR_out (c := c) HG.out HA.out (least := 0) (most := most) (.inr ho))
    have d2 : decide ((most : Int) < (a : Int)) = true := decide_eq_true (by omega)
    go_wp2_with fail
    refine CR.out.mono ?_
    rintro e w2 ⟨rfl, h2, hk2⟩
    have ST2 := Lib.hid h2
    have K2 := Lib.hid (HK.out.trans hk2)
    clear h2 hk2
    go_wp2_with fail
    go_ret
    exact ⟨_, 0, _, rfl, ⟨rfl, Nat.zero_le _⟩, ST2.out, GX.out, K2.out⟩
  · have GX := Lib.hid (withR_in (c := c) HG.out (least := 0) (most := most) (by omega))
    have LE := Lib.hid (show a ≤ most by omega)
    have d2 : decide ((most : Int) < (a : Int)) = false := decide_eq_false (by omega)
    go_wp2_with fail
    go_ret
    exact ⟨_, a, S', rfl, ⟨rfl, LE.out⟩, ST.out, GX.out, HK.out⟩
/-- A count, an index: a number as an int. -/
def CntV (most : Nat) (_w : World) (a : Nat) (v : Value) : Prop := v = .int .i64 (a : Int) ∧ a ≤ most
set_option maxHeartbeats 4000000 in
set_option maxRecDepth 100000 in
theorem icount_any (w0 : World) (r : Nat) (vb : Value) (l : List Nat) (hx : RCtx w0 r vb l) (S : RSt) (m : Nat) (hm : m ≤ 65536) (w : World) (h : RdSt w r vb l S) (k0 : Keep w0 w) :
    Calls Tryd.prog 47 #[.pointer (some ⟨r, 0, none⟩), .int .u32 (m : Int)] w (RdPost r vb l (S.run (mostR l m 15)) (CntV m) w) := by
  have C := Lib.hid (iupto_any w0 r vb l hx S 4 m 15 (.inr rfl) (by omega) (by decide) w h k0)
  rw [withR_most] at C
  clear hx h k0
  go_enter Tryd.func47, Tryd.ntmps47
  go_wp2_with fail
  refine C.out.mono ?_
  rintro e w1 ⟨v, a, S', rfl, ⟨rfl, ha⟩, hst, hgot, hk⟩
  have HP : Hid (RdPost r vb l (S.run (mostR l m 15)) (CntV m) w (.returned (.int .i64 (a : Int))) w1) := Lib.hid ⟨_, a, S', rfl, ⟨rfl, ha⟩, hst, hgot, hk⟩
  have HA := Lib.hid ha
  clear hst hgot hk C
  go_wp2_with fail
  go_ret
  exact HP.out
set_option maxHeartbeats 4000000 in
set_option maxRecDepth 100000 in
theorem iindex_any (w0 : World) (r : Nat) (vb : Value) (l : List Nat) (hx : RCtx w0 r vb l) (S : RSt) (w : World) (h : RdSt w r vb l S) (k0 : Keep w0 w) :
    Calls Tryd.prog 51 #[.pointer (some ⟨r, 0, none⟩)] w (RdPost r vb l (S.run (mostR l 2147483647 14)) (CntV 2147483647) w) := by
  have C := Lib.hid (iupto_any w0 r vb l hx S 4 2147483647 14 (.inr rfl) (by decide) (by decide) w h k0)
  rw [withR_most] at C
  clear hx h k0
  go_enter Tryd.func51, Tryd.ntmps51
  go_wp2_with fail
  refine C.out.mono ?_
  rintro e w1 ⟨v, a, S', rfl, ⟨rfl, ha⟩, hst, hgot, hk⟩
  have HP : Hid (RdPost r vb l (S.run (mostR l 2147483647 14)) (CntV 2147483647) w (.returned (.int .i64 (a : Int))) w1) := Lib.hid ⟨_, a, S', rfl, ⟨rfl, ha⟩, hst, hgot, hk⟩
  have HA := Lib.hid ha
  clear hst hgot hk C
  go_wp2_with fail
  go_ret
  exact HP.out
set_option maxHeartbeats 4000000 in
set_option maxRecDepth 100000 in
theorem itextR_any (w0 : World) (r : Nat) (vb : Value) (l : List Nat) (hx : RCtx w0 r vb l) (S : RSt) (w : World) (h : RdSt w r vb l S) (k0 : Keep w0 w) :
    Calls Tryd.prog 71 #[.pointer (some ⟨r, 0, none⟩)] w (RdPost r vb l (S.run (strR l)) TextV w) := by
  have CN := Lib.hid (inumber_any w0 r vb l hx S 1 (.inl rfl) w h k0)
  have HX := Lib.hid hx
  have K0 := Lib.hid k0
  clear hx h k0
  go_enter Tryd.func71, Tryd.ntmps71
  go_wp2_with fail
  refine CN.out.mono ?_
  rintro e w1 ⟨v, a, S1, rfl, ⟨rfl, _, ha⟩, hst, hgot, hk⟩
  have a1 : a < 256 := ha rfl
  have G1 := Lib.hid hgot
  have KB1 := Lib.hid hk
  have CT := Lib.hid (itake_any w0 r vb l HX.out S1 a (by omega) w1 hst)
  clear hst hgot hk ha CN
  go_wp2_with fail
  refine CT.out.mono ?_
  rintro e w2 ⟨v, bs, S2, rfl, ⟨hsl, hb, hlen⟩, hst, hgot, hk⟩
  have KB2 := Lib.hid (KB1.out.trans hk)
  have K2 := Lib.hid (K0.out.butNew KB2.out (fun x hx => by rw [hx]; exact HX.out.new))
  have CV := conv_bytes (hsl.keep K2.out)
  have ST := Lib.hid hst
  have G2 := Lib.hid hgot
  have HL := Lib.hid hlen
  obtain ⟨pv, cv, rfl, _, _, _⟩ := hsl
  clear hst hgot hk hb hlen CT
  go_wp2_with fail
  go_ret
  refine ⟨_, strOf bs, S2, rfl, ⟨rfl, ?_⟩, ST.out, ?_, KB2.out⟩
  · rw [strOf_size]
    rcases HL.out with rfl | e
    · exact Nat.zero_le _
    · omega
  · have e1 := Got.next (fun n p => thenR (takeR l n p) fun b q => (.ok ((⟨(b.map UInt8.ofNat).toArray⟩ : ByteArray), q) : Rd ByteArray)) G1.out
    have e2 := Got.next (fun b q => (.ok ((⟨(b.map UInt8.ofNat).toArray⟩ : ByteArray), q) : Rd ByteArray)) G2.out
    have e3 : S.run (strR l) = S2.run fun q => .ok (strOf bs, q) := e1.trans e2
    rw [e3]
    exact Got.last _
theorem strOf_himg {b : List Nat} (hb : ∀ x ∈ b, x < 256) : ((strOf b).toList == [72, 73, 77, 71]) = decide (b = himg) := by
  rw [ByteArray.toList_eq]
  show ((b.map UInt8.ofNat) == [72, 73, 77, 71]) = _
  by_cases h : b = himg
  · subst h; rfl
  · rw [decide_eq_false h, beq_eq_false_iff_ne]
    intro e
    apply h
    have e2 := congrArg (List.map UInt8.toNat) e
    rw [List.map_map] at e2
    have e3 : b.map (UInt8.toNat ∘ UInt8.ofNat) = b := by
      conv => rhs; rw [← List.map_id b]
      refine List.map_congr_left fun x hx => ?_
      have := hb x hx
      simp only [Function.comp_apply, id, UInt8.toNat_ofNat']
      omega
    rw [e3] at e2
    rw [e2]
    rfl
set_option maxHeartbeats 4000000 in
set_option maxRecDepth 100000 in
theorem ibegin_any (w0 : World) (r : Nat) (vb : Value) (l : List Nat) (hx : RCtx w0 r vb l) (S : RSt) (w : World) (h : RdSt w r vb l S) (k0 : Keep w0 w) :
    Calls Tryd.prog 45 #[.pointer (some ⟨r, 0, none⟩)] w (RdPost0 r vb l (S.run (headR l himg)) w) := by
  have CT := Lib.hid (itake_any w0 r vb l hx S 4 (by decide) w h)
  have HX := Lib.hid hx
  have K0 := Lib.hid k0
  clear hx h k0
  go_enter Tryd.func45, Tryd.ntmps45
  go_wp2_with fail
  refine CT.out.mono ?_
  rintro e w2 ⟨v, bs, S2, rfl, ⟨hsl, hb, hlen⟩, hst, hgot, hk⟩
  have KB2 := Lib.hid hk
  have K2 := Lib.hid (K0.out.butNew KB2.out (fun x hx => by rw [hx]; exact HX.out.new))
  have CV := conv_bytes (hsl.keep K2.out)
  have HD := strOf_himg hb
  have ST := Lib.hid hst
  have GX : Hid (S.run (headR l himg) = S2.run fun p => if bs = himg then .ok ((), p) else .error (0, 11)) := Lib.hid (Got.next (fun b p => (if b = himg then .ok ((), p) else .error (0, 11) : Rd Unit)) hgot)
  obtain ⟨pv, cv, rfl, _, _, _⟩ := hsl
  clear hst hgot hk hb hlen CT
  by_cases he : bs = himg
  · have E := Lib.hid he
    rw [decide_eq_true he] at HD
    have HD2 : ((strOf bs).toList != [72, 73, 77, 71]) = false := by rw [bne, HD]; rfl
    clear he
    go_wp2_with fail
    go_end0
    refine ⟨S2, rfl, ST.out, ?_, KB2.out⟩
    rw [GX.out]
    simp only [if_pos E.out]
    exact Got.last ()
  · have E := Lib.hid he
    rw [decide_eq_false he] at HD
    have HD2 : ((strOf bs).toList != [72, 73, 77, 71]) = true := by rw [bne, HD]; rfl
    clear he
    go_wp2_with fail
    refine (irefuse_any r _ l S2 0 11 (by decide) w2 ST.out).mono ?_
    rintro e w3 ⟨rfl, h3, hk3⟩
    have ST3 := Lib.hid h3
    have K3 := Lib.hid (KB2.out.trans hk3)
    clear h3 hk3
    go_wp2_with fail
    go_end0
    refine ⟨_, rfl, ST3.out, ?_, K3.out⟩
    rw [GX.out]
    simp only [if_neg E.out]
    cases S2 <;> rfl
set_option maxHeartbeats 4000000 in
set_option maxRecDepth 100000 in
theorem iend_rd (w0 : World) (r : Nat) (vb : Value) (l : List Nat) (hx : RCtx w0 r vb l) (S : RSt) (w : World) (h : RdSt w r vb l S) :
    Calls Tryd.prog 53 #[.pointer (some ⟨r, 0, none⟩)] w (RdPost0 r vb l (S.run (endR l)) w) := by
  have few := hx.few
  obtain ⟨vp, vc, rfl, _, _, _⟩ := hx.lies
  obtain ⟨p, u, hB, hat⟩ := h.box
  have HB := Lib.hid hB
  have ST := Lib.hid h
  have HA := Lib.hid hat
  have c0 := hB.cells
  clear hx h hB hat
  by_cases hl : (p : Int) < (l.length : Int)
  · have hd : decide ((p : Int) < (l.length : Int)) = true := decide_eq_true hl
    have GX : Hid (Got (S.run (endR l)) () (S.refuse (p : Int) 11)) := Lib.hid (by
      cases S with
      | error e => rfl
      | ok q =>
        have := HA.out q rfl
        rw [RSt.run_ok]
        unfold endR
        rw [if_pos (by omega), this]
        rfl)
    go_enter Tryd.func53, Tryd.ntmps53
    go_wp2_with fail
    refine region_grows (Keep w) (by kernel_rfl) (by kernel_rfl) (Keep.refl _).drew ?_
    repeat (first
      | (apply text_pass (by rfl); go_simp)
      | (apply text_step (by rfl)
         · intro W hW
           have c1 := (HB.out.keep hW).cells
           go_simp
           exact ⟨rfl, hW⟩
         go_simp))
    apply text_end
    intro W hW
    have HW := Lib.hid hW
    have c1 := (HB.out.keep hW).cells
    have CR := Lib.hid (irefuse_any r _ l S (p : Int) 11 (by decide) W (ST.out.keep hW))
    clear hW c0
    go_wp2_with fail
    refine CR.out.mono ?_
    rintro e w3 ⟨rfl, h3, hk3⟩
    have ST3 := Lib.hid h3
    have K3 := Lib.hid ((HW.out.but _).trans hk3)
    clear h3 hk3
    go_wp2_with fail
    go_end0
    exact ⟨_, rfl, ST3.out, GX.out, K3.out⟩
  · have hd : decide ((p : Int) < (l.length : Int)) = false := decide_eq_false hl
    have GX : Hid (Got (S.run (endR l)) () S) := Lib.hid (by
      cases S with
      | error e => rfl
      | ok q =>
        have := HA.out q rfl
        rw [RSt.run_ok]
        unfold endR
        rw [if_neg (by omega)]
        exact ⟨rfl, rfl⟩)
    go_enter Tryd.func53, Tryd.ntmps53
    go_wp2_with fail
    refine region_grows (Keep w) (by kernel_rfl) (by kernel_rfl) (Keep.refl _).drew ?_
    repeat (first
      | (apply text_pass (by rfl); go_simp)
      | (apply text_step (by rfl)
         · intro W hW
           have c1 := (HB.out.keep hW).cells
           go_simp
           exact ⟨rfl, hW⟩
         go_simp))
    apply text_end
    intro W hW
    have ST3 := Lib.hid (ST.out.keep hW)
    have K3 := Lib.hid (hW.but (fun z => z = r))
    clear hW c0
    go_wp2_with fail
    go_end0
    exact ⟨_, rfl, ST3.out, GX.out, K3.out⟩
end Go.Proofs.YtmcbeclkocjlkaaDoor

/- The program's span, initial, as they are read. -/
namespace Go.Proofs.YtmcbeclkocjlkaaDoor
set_option linter.unusedVariables false
set_option linter.unusedSimpArgs false
open Go Go.RowKit
theorem RdSt.sets2 {w : World} {r : Nat} {vb : Value} {l : List Nat} {S : RSt} (h : RdSt w r vb l S) {g : Nat} {vs : Array Value} (hB : Box w g vs) (hs : vs.size ≠ 3) (v0 v1 : Value) : RdSt ((w.setCell ⟨g, 0, none⟩ v0).setCell ⟨g, 1, none⟩ v1) r vb l S := by
  have h0 := h.set hB (by simpa using hs) 0 v0
  have b0 := hB.set 0 v0
  have h1 := h0.set b0 (by simpa using hs) 1 v1
  exact h1
theorem RdSt.sets7 {w : World} {r : Nat} {vb : Value} {l : List Nat} {S : RSt} (h : RdSt w r vb l S) {g : Nat} {vs : Array Value} (hB : Box w g vs) (hs : vs.size ≠ 3) (v0 v1 v2 v3 v4 v5 v6 : Value) : RdSt (((((((w.setCell ⟨g, 0, none⟩ v0).setCell ⟨g, 1, none⟩ v1).setCell ⟨g, 2, none⟩ v2).setCell ⟨g, 3, none⟩ v3).setCell ⟨g, 4, none⟩ v4).setCell ⟨g, 5, none⟩ v5).setCell ⟨g, 6, none⟩ v6) r vb l S := by
  have h0 := h.set hB (by simpa using hs) 0 v0
  have b0 := hB.set 0 v0
  have h1 := h0.set b0 (by simpa using hs) 1 v1
  have b1 := b0.set 1 v1
  have h2 := h1.set b1 (by simpa using hs) 2 v2
  have b2 := b1.set 2 v2
  have h3 := h2.set b2 (by simpa using hs) 3 v3
  have b3 := b2.set 3 v3
  have h4 := h3.set b3 (by simpa using hs) 4 v4
  have b4 := b3.set 4 v4
  have h5 := h4.set b4 (by simpa using hs) 5 v5
  have b5 := b4.set 5 v5
  have h6 := h5.set b5 (by simpa using hs) 6 v6
  exact h6
theorem RdSt.sets8 {w : World} {r : Nat} {vb : Value} {l : List Nat} {S : RSt} (h : RdSt w r vb l S) {g : Nat} {vs : Array Value} (hB : Box w g vs) (hs : vs.size ≠ 3) (v0 v1 v2 v3 v4 v5 v6 v7 : Value) : RdSt ((((((((w.setCell ⟨g, 0, none⟩ v0).setCell ⟨g, 1, none⟩ v1).setCell ⟨g, 2, none⟩ v2).setCell ⟨g, 3, none⟩ v3).setCell ⟨g, 4, none⟩ v4).setCell ⟨g, 5, none⟩ v5).setCell ⟨g, 6, none⟩ v6).setCell ⟨g, 7, none⟩ v7) r vb l S := by
  have h0 := h.set hB (by simpa using hs) 0 v0
  have b0 := hB.set 0 v0
  have h1 := h0.set b0 (by simpa using hs) 1 v1
  have b1 := b0.set 1 v1
  have h2 := h1.set b1 (by simpa using hs) 2 v2
  have b2 := b1.set 2 v2
  have h3 := h2.set b2 (by simpa using hs) 3 v3
  have b3 := b2.set 3 v3
  have h4 := h3.set b3 (by simpa using hs) 4 v4
  have b4 := b3.set 4 v4
  have h5 := h4.set b4 (by simpa using hs) 5 v5
  have b5 := b4.set 5 v5
  have h6 := h5.set b5 (by simpa using hs) 6 v6
  have b6 := b5.set 6 v6
  have h7 := h6.set b6 (by simpa using hs) 7 v7
  exact h7
/-- What span answers. -/
def SpanRV (_w : World) (s : SpanV) (v : Value) : Prop := v = spanVal s ∧ SpanOk s
set_option maxHeartbeats 4000000 in
set_option maxRecDepth 100000 in
theorem ispanR_any (w0 : World) (r : Nat) (vb : Value) (l : List Nat) (hx : RCtx w0 r vb l) (S : RSt) (w : World) (h : RdSt w r vb l S) (k0 : Keep w0 w) :
    Calls Tryd.prog 49 #[.pointer (some ⟨r, 0, none⟩)] w (RdPost r vb l (S.run (spanR l)) SpanRV w) := by
  obtain ⟨W0, hW0⟩ : ∃ W0, W0 = w.alloc (.cells #[.int .u32 0, .int .u32 0] 36) := ⟨_, rfl⟩
  have KA : Hid (Keep w W0) := Lib.hid (by rw [hW0]; exact (Keep.refl _).alloc _)
  have R0 : Hid (Box W0 w.heap.size #[.int .u32 0, .int .u32 0]) := Lib.hid (by rw [hW0]; exact Box.new _ _ _)
  have NR := Lib.hid (show w.heap.size ≠ r from fun e => by have := h.lt; omega)
  have HX := Lib.hid hx
  have K0 := Lib.hid (k0.trans KA.out)
  have KB0 : Hid (KeepBut (fun z => z = r) W0 W0) := Lib.hid (KeepBut.refl _ _)
  have ST0 := Lib.hid (h.keep KA.out)
  clear hx h k0
  go_enter Tryd.func49, Tryd.ntmps49
  go_wp2_with fail
  rw [← hW0]
  clear hW0
  have C1 := Lib.hid (inumber_any w0 r vb l HX.out S 4 (.inr rfl) W0 ST0.out (K0.out.butNew KB0.out (fun x hx => by rw [hx]; exact HX.out.new)))
  rw [numRN_four] at C1
  refine C1.out.mono ?_
  rintro e w1 ⟨v, a1, S1, rfl, ⟨rfl, ha1, _⟩, hst, hgot, hk⟩
  have G1 := Lib.hid hgot
  have KB1 := Lib.hid (KB0.out.trans hk)
  have ST1 := Lib.hid hst
  clear hst hgot hk C1
  go_wp2_with fail
  have C2 := Lib.hid (inumber_any w0 r vb l HX.out S1 4 (.inr rfl) w1 ST1.out (K0.out.butNew KB1.out (fun x hx => by rw [hx]; exact HX.out.new)))
  rw [numRN_four] at C2
  refine C2.out.mono ?_
  rintro e w2 ⟨v, a2, S2, rfl, ⟨rfl, ha2, _⟩, hst, hgot, hk⟩
  have G2 := Lib.hid hgot
  have KB2 := Lib.hid (KB1.out.trans hk)
  have ST2 := Lib.hid hst
  clear hst hgot hk C2
  have GA : Hid (Got (S.run (spanR l)) (⟨(a1 : Int), (a2 : Int)⟩ : SpanV) S2) := Lib.hid (by
    have e1 := Got.next (fun (a : Nat) p => thenR (numR l p) fun (s : Nat) p => (.ok ((⟨a, s⟩ : SpanV), p) : Rd SpanV)) G1.out
    have e2 := Got.next (fun (s : Nat) p => (.ok ((⟨(a1 : Int), s⟩ : SpanV), p) : Rd SpanV)) G2.out
    have ee : S.run (spanR l) = _ := e1.trans (e2)
    rw [ee]
    exact Got.last _)
  have HA := Lib.hid (show SpanOk ⟨(a1 : Int), (a2 : Int)⟩ from ⟨⟨Int.natCast_nonneg _, by show (a1 : Int) < _; omega⟩, ⟨Int.natCast_nonneg _, by show (a2 : Int) < _; omega⟩⟩)
  clear ha1 ha2
  have KW := Lib.hid ((KA.out.but (fun z => z = r)).trans KB2.out)
  have R2 := Lib.hid (R0.out.but KB2.out NR.out)
  have r0 := R2.out.cells
  have rf := R2.out.thawed
  go_wp2_with fail
  refine bodyPost_ret (v := .agg #[.int .u32 (a1 : Int), .int .u32 (a2 : Int)]) ?_ rfl ⟨_, _, S2, rfl, ⟨rfl, HA.out⟩, ?_, GA.out, ?_⟩
  · simp [results, Tryd.results49, go_sem, r0]; done
  · exact RdSt.sets2 ST2.out R2.out (by decide) _ _
  · repeat (with_reducible refine KeepBut.setAt ?_ ?_ _; · exact .inr (Nat.le_refl _))
    exact KW.out
/-- What initial answers. -/
def InitRV (_w : World) (x : InitV) (v : Value) : Prop := v = .agg #[.int .i64 x.comp, .int .u32 x.at_, .int .i64 x.kind, .bool x.data, .int .i64 x.src, .int .u32 x.addr, .int .u16 x.perm] ∧ N32 x.at_ ∧ N32 x.addr ∧ (0 ≤ x.perm ∧ x.perm < 65536)
set_option maxHeartbeats 4000000 in
set_option maxRecDepth 100000 in
theorem iinitR_any (w0 : World) (r : Nat) (vb : Value) (l : List Nat) (hx : RCtx w0 r vb l) (S : RSt) (w : World) (h : RdSt w r vb l S) (k0 : Keep w0 w) :
    Calls Tryd.prog 50 #[.pointer (some ⟨r, 0, none⟩)] w (RdPost r vb l (S.run (initR l)) InitRV w) := by
  obtain ⟨W0, hW0⟩ : ∃ W0, W0 = w.alloc (.cells #[.int .i64 0, .int .u32 0, .int .i64 0, .bool false, .int .i64 0, .int .u32 0, .int .u16 0] 43) := ⟨_, rfl⟩
  have KA : Hid (Keep w W0) := Lib.hid (by rw [hW0]; exact (Keep.refl _).alloc _)
  have R0 : Hid (Box W0 w.heap.size #[.int .i64 0, .int .u32 0, .int .i64 0, .bool false, .int .i64 0, .int .u32 0, .int .u16 0]) := Lib.hid (by rw [hW0]; exact Box.new _ _ _)
  have NR := Lib.hid (show w.heap.size ≠ r from fun e => by have := h.lt; omega)
  have HX := Lib.hid hx
  have K0 := Lib.hid (k0.trans KA.out)
  have KB0 : Hid (KeepBut (fun z => z = r) W0 W0) := Lib.hid (KeepBut.refl _ _)
  have ST0 := Lib.hid (h.keep KA.out)
  clear hx h k0
  go_enter Tryd.func50, Tryd.ntmps50
  go_wp2_with fail
  rw [← hW0]
  clear hW0
  have C1 := Lib.hid (iindex_any w0 r vb l HX.out S W0 ST0.out (K0.out.butNew KB0.out (fun x hx => by rw [hx]; exact HX.out.new)))
  refine C1.out.mono ?_
  rintro e w1 ⟨v, a1, S1, rfl, ⟨rfl, ha1⟩, hst, hgot, hk⟩
  have G1 := Lib.hid hgot
  have KB1 := Lib.hid (KB0.out.trans hk)
  have ST1 := Lib.hid hst
  clear hst hgot hk C1
  go_wp2_with fail
  have C2 := Lib.hid (inumber_any w0 r vb l HX.out S1 4 (.inr rfl) w1 ST1.out (K0.out.butNew KB1.out (fun x hx => by rw [hx]; exact HX.out.new)))
  rw [numRN_four] at C2
  refine C2.out.mono ?_
  rintro e w2 ⟨v, a2, S2, rfl, ⟨rfl, ha2, _⟩, hst, hgot, hk⟩
  have G2 := Lib.hid hgot
  have KB2 := Lib.hid (KB1.out.trans hk)
  have ST2 := Lib.hid hst
  clear hst hgot hk C2
  go_wp2_with fail
  have C3 := Lib.hid (iindex_any w0 r vb l HX.out S2 w2 ST2.out (K0.out.butNew KB2.out (fun x hx => by rw [hx]; exact HX.out.new)))
  refine C3.out.mono ?_
  rintro e w3 ⟨v, a3, S3, rfl, ⟨rfl, ha3⟩, hst, hgot, hk⟩
  have G3 := Lib.hid hgot
  have KB3 := Lib.hid (KB2.out.trans hk)
  have ST3 := Lib.hid hst
  clear hst hgot hk C3
  go_wp2_with fail
  have C4 := Lib.hid (iupto_any w0 r vb l HX.out S3 1 1 11 (.inl rfl) (by decide) (by decide) w3 ST3.out (K0.out.butNew KB3.out (fun x hx => by rw [hx]; exact HX.out.new)))
  rw [withR_upto] at C4
  refine C4.out.mono ?_
  rintro e w4 ⟨v, a4, S4, rfl, ⟨rfl, ha4⟩, hst, hgot, hk⟩
  have G4 := Lib.hid hgot
  have KB4 := Lib.hid (KB3.out.trans hk)
  have ST4 := Lib.hid hst
  clear hst hgot hk C4
  go_wp2_with fail
  have C5 := Lib.hid (iindex_any w0 r vb l HX.out S4 w4 ST4.out (K0.out.butNew KB4.out (fun x hx => by rw [hx]; exact HX.out.new)))
  refine C5.out.mono ?_
  rintro e w5 ⟨v, a5, S5, rfl, ⟨rfl, ha5⟩, hst, hgot, hk⟩
  have G5 := Lib.hid hgot
  have KB5 := Lib.hid (KB4.out.trans hk)
  have ST5 := Lib.hid hst
  clear hst hgot hk C5
  go_wp2_with fail
  have C6 := Lib.hid (inumber_any w0 r vb l HX.out S5 4 (.inr rfl) w5 ST5.out (K0.out.butNew KB5.out (fun x hx => by rw [hx]; exact HX.out.new)))
  rw [numRN_four] at C6
  refine C6.out.mono ?_
  rintro e w6 ⟨v, a6, S6, rfl, ⟨rfl, ha6, _⟩, hst, hgot, hk⟩
  have G6 := Lib.hid hgot
  have KB6 := Lib.hid (KB5.out.trans hk)
  have ST6 := Lib.hid hst
  clear hst hgot hk C6
  go_wp2_with fail
  have C7 := Lib.hid (iupto_any w0 r vb l HX.out S6 4 65535 11 (.inr rfl) (by decide) (by decide) w6 ST6.out (K0.out.butNew KB6.out (fun x hx => by rw [hx]; exact HX.out.new)))
  rw [withR_most] at C7
  refine C7.out.mono ?_
  rintro e w7 ⟨v, a7, S7, rfl, ⟨rfl, ha7⟩, hst, hgot, hk⟩
  have G7 := Lib.hid hgot
  have KB7 := Lib.hid (KB6.out.trans hk)
  have ST7 := Lib.hid hst
  clear hst hgot hk C7
  obtain ⟨db, hdb⟩ : ∃ db, db = decide (a4 = 1) := ⟨_, rfl⟩
  have GA : Hid (Got (S.run (initR l)) (⟨(a1 : Int), (a2 : Int), (a3 : Int), db, (a5 : Int), (a6 : Int), (a7 : Int)⟩ : InitV) S7) := Lib.hid (by
    have e1 := Got.next (fun (c : Nat) p => thenR (numR l p) fun (a : Nat) p => thenR (mostR l 2147483647 14 p) fun (k : Nat) p => thenR (uptoR l 0 1 p) fun (d : Nat) p => thenR (mostR l 2147483647 14 p) fun (f : Nat) p => thenR (numR l p) fun (w : Nat) p => thenR (mostR l 65535 11 p) fun (m : Nat) p => (.ok ((⟨c, a, k, decide (d = 1), f, w, m⟩ : InitV), p) : Rd InitV)) G1.out
    have e2 := Got.next (fun (a : Nat) p => thenR (mostR l 2147483647 14 p) fun (k : Nat) p => thenR (uptoR l 0 1 p) fun (d : Nat) p => thenR (mostR l 2147483647 14 p) fun (f : Nat) p => thenR (numR l p) fun (w : Nat) p => thenR (mostR l 65535 11 p) fun (m : Nat) p => (.ok ((⟨(a1 : Int), a, k, decide (d = 1), f, w, m⟩ : InitV), p) : Rd InitV)) G2.out
    have e3 := Got.next (fun (k : Nat) p => thenR (uptoR l 0 1 p) fun (d : Nat) p => thenR (mostR l 2147483647 14 p) fun (f : Nat) p => thenR (numR l p) fun (w : Nat) p => thenR (mostR l 65535 11 p) fun (m : Nat) p => (.ok ((⟨(a1 : Int), (a2 : Int), k, decide (d = 1), f, w, m⟩ : InitV), p) : Rd InitV)) G3.out
    have e4 := Got.next (fun (d : Nat) p => thenR (mostR l 2147483647 14 p) fun (f : Nat) p => thenR (numR l p) fun (w : Nat) p => thenR (mostR l 65535 11 p) fun (m : Nat) p => (.ok ((⟨(a1 : Int), (a2 : Int), (a3 : Int), decide (d = 1), f, w, m⟩ : InitV), p) : Rd InitV)) G4.out
    have e5 := Got.next (fun (f : Nat) p => thenR (numR l p) fun (w : Nat) p => thenR (mostR l 65535 11 p) fun (m : Nat) p => (.ok ((⟨(a1 : Int), (a2 : Int), (a3 : Int), decide (a4 = 1), f, w, m⟩ : InitV), p) : Rd InitV)) G5.out
    have e6 := Got.next (fun (w : Nat) p => thenR (mostR l 65535 11 p) fun (m : Nat) p => (.ok ((⟨(a1 : Int), (a2 : Int), (a3 : Int), decide (a4 = 1), (a5 : Int), w, m⟩ : InitV), p) : Rd InitV)) G6.out
    have e7 := Got.next (fun (m : Nat) p => (.ok ((⟨(a1 : Int), (a2 : Int), (a3 : Int), decide (a4 = 1), (a5 : Int), (a6 : Int), m⟩ : InitV), p) : Rd InitV)) G7.out
    have ee : S.run (initR l) = _ := e1.trans (e2.trans (e3.trans (e4.trans (e5.trans (e6.trans (e7))))))
    rw [ee, hdb]
    exact Got.last _)
  have HA := Lib.hid (show N32 (a2 : Int) ∧ N32 (a6 : Int) ∧ (0 ≤ (a7 : Int) ∧ (a7 : Int) < 65536) from ⟨⟨Int.natCast_nonneg _, by omega⟩, ⟨Int.natCast_nonneg _, by omega⟩, ⟨Int.natCast_nonneg _, by omega⟩⟩)
  have wr : IntKind.u16.wrap (a7 : Int) = (a7 : Int) := by rw [IntKind.wrap_u16]; omega
  have hd4 : (a4 = 0 ∧ db = false) ∨ (a4 = 1 ∧ db = true) := by
    rcases (by omega : a4 = 0 ∨ a4 = 1) with rfl | rfl <;> simp [hdb]
  clear ha1 ha2 ha3 ha4 ha5 ha6 ha7 hdb
  have KW := Lib.hid ((KA.out.but (fun z => z = r)).trans KB7.out)
  have R7 := Lib.hid (R0.out.but KB7.out NR.out)
  have r0 := R7.out.cells
  have rf := R7.out.thawed
  rcases hd4 with ⟨rfl, rfl⟩ | ⟨rfl, rfl⟩
  all_goals (
    go_wp2_with fail
    refine bodyPost_ret (v := .agg #[.int .i64 (a1 : Int), .int .u32 (a2 : Int), .int .i64 (a3 : Int), .bool _, .int .i64 (a5 : Int), .int .u32 (a6 : Int), .int .u16 (a7 : Int)]) ?_ rfl ⟨_, _, S7, rfl, ⟨rfl, HA.out⟩, ?_, GA.out, ?_⟩
    · simp [results, Tryd.results50, go_sem, r0]; done
    · exact RdSt.sets7 ST7.out R7.out (by decide) _ _ _ _ _ _ _
    · repeat (with_reducible refine KeepBut.setAt ?_ ?_ _; · exact .inr (Nat.le_refl _))
      exact KW.out)
end Go.Proofs.YtmcbeclkocjlkaaDoor
