/- PEvRd, PEvFns, PEvTok, PEvNam: The program's reader of constants: where it lies, what it holds; what a reading leaves. -/
import Derived.Test.YtockkidbncpdlaaDoorExprC
import Derived.Test.YtockkidbncpdlaaDoorEvClimb
import Derived.Test.YtockkidbncpdlaaDoorSteps
import Derived.IntWalk
import Derived.Test.YtockkidbncpdlaaDoorGBase
import Derived.Test.YtockkidbncpdlaaDoorEvAtom
/- The program's reader of constants: where it lies, what it holds; what a reading leaves. -/
namespace Go.Proofs.YtockkidbncpdlaaDoor
set_option linter.unusedVariables false
set_option linter.unusedSimpArgs false
open Go.RowKit
def Rdr.pc (r : Rdr) (a : Int) : Array Value := #[.slice r.p r.toks.length r.cap, .int .i64 a, .slice r.q r.names.length r.capN]
/-- A row of names lies where a slice says, in a block that is not b. -/
def NamesIn (w : World) (b0 : Nat) (q : Option Addr) (l : List (ByteArray × Int)) : Prop := l = [] ∨ ∃ b off, q = some ⟨b, off, none⟩ ∧ b ≠ b0 ∧ b < w.heap.size ∧ ∀ (i : Nat) (x : ByteArray × Int), l[i]? = some x → w.cell? ⟨b, off + i * 2, none⟩ = some (.string x.1) ∧ w.cell? ⟨b, off + i * 2 + 1, none⟩ = some (.int .i64 x.2)
theorem NamesIn.but {w w' : World} {b0 : Nat} {q : Option Addr} {l : List (ByteArray × Int)} (h : NamesIn w b0 q l) (k : KeepBut (fun z => z = b0) w w') : NamesIn w' b0 q l := by
  rcases h with h | ⟨b, off, h1, h2, h3, h4⟩
  · exact .inl h
  · exact .inr ⟨b, off, h1, h2, Nat.lt_of_lt_of_le h3 k.size, fun i x hx => ⟨cell_but k h3 h2 (h4 i x hx).1, cell_but k h3 h2 (h4 i x hx).2⟩⟩
theorem NamesAt.isIn {w w' : World} {q : Option Addr} {l : List (ByteArray × Int)} (h : NamesAt w q l) (k : Keep w w') {b : Nat} (hb : w.heap.size ≤ b) : NamesIn w' b q l := by
  rcases h.keep k with h1 | ⟨g, off, h1, h2, h3⟩
  · exact .inl h1
  · rcases h with h | ⟨g', off', h1', h2', _⟩
    · exact .inl h
    · rw [h1] at h1'
      simp only [Option.some.injEq, Addr.mk.injEq, and_true] at h1'
      obtain ⟨e1, e2⟩ := h1'
      subst e1
      exact .inr ⟨g, off, h1, by omega, h2, h3⟩
structure Rdr.PIn (r : Rdr) (w : World) : Prop where
  toks : RowIn w r.b r.p (tokRows r.toks)
  names : NamesIn w r.b r.q r.names
  few : r.toks.length ≤ 1000
  fewN : r.names.length ≤ 1000
  cap : r.toks.length ≤ r.cap
  capN : r.names.length ≤ r.capN
  ok : ∀ t ∈ r.toks, TokOk t
  nm : ∀ x ∈ r.names, -9223372036854775808 ≤ x.2 ∧ x.2 ≤ 9223372036854775807
theorem Rdr.PIn.but {r : Rdr} {w w' : World} (h : r.PIn w) (k : KeepBut (fun z => z = r.b) w w') : r.PIn w' := ⟨h.toks.but k, h.names.but k, h.few, h.fewN, h.cap, h.capN, h.ok, h.nm⟩
theorem Rdr.PIn.keep {r : Rdr} {w w' : World} (h : r.PIn w) (k : Keep w w') : r.PIn w' := h.but (k.but _)
def Rdr.POk (r : Rdr) (w : World) (a : Int) : Prop := Box w r.b (r.pc a)
theorem Rdr.POk.keep {r : Rdr} {w w' : World} {a : Int} (h : r.POk w a) (k : Keep w w') : r.POk w' a := Box.keep h k
theorem Rdr.POk.next {r : Rdr} {w : World} {a : Int} (h : r.POk w a) (b : Int) : r.POk (w.setCell ⟨r.b, 1, none⟩ (.int .i64 b)) b := by
  unfold Rdr.POk Rdr.pc at h ⊢
  simpa using Box.set h 1 (.int .i64 b)
/-- The cells of the word at a place. -/
theorem Rdr.PIn.tok {r : Rdr} {w : World} (h : r.PIn w) {i : Nat} {t : Tok} (ht : r.toks[i]? = some t) : ∃ g, r.p = some ⟨g, 0, none⟩ ∧ g ≠ r.b ∧ w.cell? ⟨g, i * 4, none⟩ = some (.int .i64 t.kind) ∧ w.cell? ⟨g, i * 4 + 1, none⟩ = some (.string t.text) ∧ w.cell? ⟨g, i * 4 + 2, none⟩ = some (.int .i64 t.n) ∧ w.cell? ⟨g, i * 4 + 3, none⟩ = some (.int .i64 t.pl) := by
  have hi := (List.getElem?_eq_some_iff.1 ht).1
  have hl := tokRows_length r.toks
  rcases h.toks with h | ⟨g, vs, h1, h2, h3, h4⟩
  · rw [h] at hl; simp at hl; omega
  · refine ⟨g, h1, h2, ?_, ?_, ?_, ?_⟩
    · have := tokRows_row r.toks i 0 (by decide) t ht
      rw [h3.cells, h4 _ (by omega)]; exact this
    · have := tokRows_row r.toks i 1 (by decide) t ht
      rw [h3.cells, h4 _ (by omega)]; exact this
    · have := tokRows_row r.toks i 2 (by decide) t ht
      rw [h3.cells, h4 _ (by omega)]; exact this
    · have := tokRows_row r.toks i 3 (by decide) t ht
      rw [h3.cells, h4 _ (by omega)]; exact this
theorem Rdr.PIn.name {r : Rdr} {w : World} (h : r.PIn w) {i : Nat} {t : ByteArray × Int} (ht : r.names[i]? = some t) : ∃ g off, r.q = some ⟨g, off, none⟩ ∧ g ≠ r.b ∧ w.cell? ⟨g, off + i * 2, none⟩ = some (.string t.1) ∧ w.cell? ⟨g, off + i * 2 + 1, none⟩ = some (.int .i64 t.2) := by
  rcases h.names with h | ⟨g, off, h1, h2, h3, h4⟩
  · rw [h] at ht; simp at ht
  · exact ⟨g, off, h1, h2, h4 i t ht⟩
/-- What a reading leaves. -/
def PPost (r : Rdr) (m : EvM) (d : Nat) (w : World) (x : Ending) (w' : World) : Prop :=
  KeepBut (fun z => z = r.b) w w' ∧
  ((∃ (n : Int) (p : Nat), Ev r.toks r.names m d (.ok n p) ∧ x = .returned (.tuple #[.int .i64 n, .nilIface]) ∧ InB n ∧ m.at_ ≤ p ∧ p ≤ r.toks.length ∧ r.POk w' p) ∨
   (∃ (p : Nat) (e : Int) (q : Nat), Ev r.toks r.names m d (.bad p e) ∧ e ≠ 0 ∧ x = .returned (.tuple #[.int .i64 0, faultP q]) ∧ faultB w' q tokenS p e))
theorem PPost.ok {r : Rdr} {m : EvM} {d : Nat} {w w' : World} {n : Int} {p : Nat} (h : Ev r.toks r.names m d (.ok n p)) (hn : InB n) (h1 : m.at_ ≤ p) (h2 : p ≤ r.toks.length) (k : KeepBut (fun z => z = r.b) w w') (ho : r.POk w' p) : PPost r m d w (.returned (.tuple #[.int .i64 n, .nilIface])) w' :=
  ⟨k, .inl ⟨n, p, h, rfl, hn, h1, h2, ho⟩⟩
theorem PPost.bad {r : Rdr} {m : EvM} {d : Nat} {w w' : World} {p q : Nat} {e : Int} (h : Ev r.toks r.names m d (.bad p e)) (he : e ≠ 0) (k : KeepBut (fun z => z = r.b) w w') (ho : faultB w' q tokenS p e) : PPost r m d w (.returned (.tuple #[.int .i64 0, faultP q])) w' :=
  ⟨k, .inr ⟨p, e, q, h, he, rfl, ho⟩⟩
/-- What a small check answers: a number, or a fault at a place. -/
def InsR (pl : Nat) (o : Option Int) (w : World) (x : Ending) (w' : World) : Prop :=
  Keep w w' ∧ match o with
  | some n => x = .returned (.tuple #[.int .i64 n, .nilIface])
  | none => ∃ q, x = .returned (.tuple #[.int .i64 0, faultP q]) ∧ faultB w' q tokenS pl 14
end Go.Proofs.YtockkidbncpdlaaDoor

/- The program's small functions of constants: fits, size, fault, inside, token, sign. -/
namespace Go.Proofs.YtockkidbncpdlaaDoor
set_option linter.unusedVariables false
set_option linter.unusedSimpArgs false
open Go.RowKit

theorem pfits_any (v lo hi : Int) (w : World) : Calls Tryd.prog 47 #[.int .i64 v, .int .i64 lo, .int .i64 hi] w fun x w' => x = .returned (.bool (decide (lo ≤ v) && decide (v ≤ hi))) ∧ w = w' := by
  by_cases h1 : lo ≤ v
  · have d1 : decide (lo ≤ v) = true := decide_eq_true h1
    by_cases h2 : v ≤ hi
    · have d2 : decide (v ≤ hi) = true := decide_eq_true h2
      rw [d1, d2]
      go_enter Tryd.func47, Tryd.ntmps47
      go_wp2_with fail
      go_ret
      exact ⟨rfl, rfl⟩
    · have d2 : decide (v ≤ hi) = false := decide_eq_false h2
      rw [d1, d2]
      go_enter Tryd.func47, Tryd.ntmps47
      go_wp2_with fail
      go_ret
      exact ⟨rfl, rfl⟩
  · have d1 : decide (lo ≤ v) = false := decide_eq_false h1
    rw [d1, Bool.false_and]
    go_enter Tryd.func47, Tryd.ntmps47
    go_wp2_with fail
    go_ret
    exact ⟨rfl, rfl⟩
theorem psize_any (v : Int) (h : -4611686018427387904 ≤ v ∧ v ≤ 4611686018427387904) (w : World) : Calls Tryd.prog 48 #[.int .i64 v] w fun x w' => x = .returned (.int .i64 (absI v)) ∧ w = w' := by
  obtain ⟨h1, h2⟩ := h
  go_enter Tryd.func48, Tryd.ntmps48
  go_wp2_with fail
  go_ret
  refine ⟨?_, rfl⟩
  have e : max v (-v) = absI v := by unfold absI; omega
  rw [← e]
  rfl
theorem pfault_any (pl : Nat) (e : Int) (w : World) : Calls Tryd.prog 31 #[.int .i64 pl, .iface 62 (.int .i64 e)] w fun x w' => ∃ q, x = .returned (faultP q) ∧ faultB w' q tokenS pl e ∧ Keep w w' := by
  go_enter Tryd.func31, Tryd.ntmps31
  go_wp2_with fail
  go_ret
  exact ⟨_, rfl, Box.new _ _ _, (Keep.refl _).alloc _⟩
theorem bd_some {n : Int} (h : -1099511627776 ≤ n ∧ n ≤ 1099511627776) : boundE n = some n := by
  unfold boundE lxBig; rw [if_neg (by omega)]
theorem bd_none {n : Int} (h : ¬ (-1099511627776 ≤ n ∧ n ≤ 1099511627776)) : boundE n = none := by
  unfold boundE lxBig; rw [if_pos (by omega)]
theorem fits_is (n : Int) : (decide (-1099511627776 ≤ n) && decide (n ≤ 1099511627776)) = decide (-1099511627776 ≤ n ∧ n ≤ 1099511627776) := by
  rw [Bool.decide_and]
theorem pinside_any (pl : Nat) (v : Int) (w : World) : Calls Tryd.prog 44 #[.int .i64 pl, .int .i64 v] w (InsR pl (boundE v) w) := by
  have C := Lib.hid (pfits_any v (-1099511627776) 1099511627776 w)
  have CF := Lib.hid (fun W => pfault_any pl 14 W)
  by_cases h : -1099511627776 ≤ v ∧ v ≤ 1099511627776
  · rw [bd_some h]
    rw [fits_is, decide_eq_true h] at C
    clear h
    go_enter Tryd.func44, Tryd.ntmps44
    go_wp2_with fail
    refine C.out.mono ?_
    rintro e w1 ⟨rfl, rfl⟩
    go_wp2_with fail
    go_ret2
    exact ⟨Keep.refl _, rfl⟩
  · rw [bd_none h]
    rw [fits_is, decide_eq_false h] at C
    clear h
    go_enter Tryd.func44, Tryd.ntmps44
    go_wp2_with fail
    refine C.out.mono ?_
    rintro e w1 ⟨rfl, rfl⟩
    go_wp2_with fail
    refine (CF.out _).mono ?_
    rintro e w2 ⟨q, rfl, hb, hk⟩
    have HB := Lib.hid hb
    have HK := Lib.hid hk
    clear hb hk
    go_wp2_with fail
    go_ret2
    exact ⟨HK.out, q, rfl, HB.out⟩
end Go.Proofs.YtockkidbncpdlaaDoor

/- The program's next token, and its text if it is a sign. -/
namespace Go.Proofs.YtockkidbncpdlaaDoor
set_option linter.unusedVariables false
set_option linter.unusedSimpArgs false
open Go.RowKit
def tokOV : Option Tok → Value
  | none => .agg #[.int .i64 0, .string ⟨#[]⟩, .int .i64 0, .int .i64 0]
  | some t => .agg #[.int .i64 t.kind, .string t.text, .int .i64 t.n, .int .i64 t.pl]
set_option maxHeartbeats 2000000 in
set_option maxRecDepth 100000 in
theorem ptoken_any (r : Rdr) (a : Nat) (w : World) (hr : r.PIn w) (ho : r.POk w a) : Calls Tryd.prog 43 #[.pointer (some ⟨r.b, 0, none⟩)] w fun x w' => x = .returned (tokOV r.toks[a]?) ∧ Keep w w' := by
  have HR := Lib.hid hr
  have HO := Lib.hid ho
  have few := hr.few
  have cap := hr.cap
  have c0 := ho.cells
  unfold Rdr.pc at c0
  clear hr ho
  have d0 : decide ((a : Int) < 0) = false := decide_eq_false (by omega)
  have B0 : Box (w.alloc (.cells #[.int .i64 0, .string ⟨#[]⟩, .int .i64 0, .int .i64 0] 47)) w.heap.size #[.int .i64 0, .string ⟨#[]⟩, .int .i64 0, .int .i64 0] := Box.new _ _ _
  have K0 := Lib.hid ((Keep.refl w).alloc (.cells #[.int .i64 0, .string ⟨#[]⟩, .int .i64 0, .int .i64 0] 47))
  by_cases hp : a < r.toks.length
  · obtain ⟨t, ht⟩ : ∃ t, r.toks[a]? = some t := ⟨_, List.getElem?_eq_getElem hp⟩
    have HT := Lib.hid ht
    have hpi : (a : Int) < (r.toks.length : Int) := by omega
    have hpd : decide ((r.toks.length : Int) ≤ (a : Int)) = false := decide_eq_false (by omega)
    obtain ⟨g, hg, hgb, _⟩ := HR.out.tok ht
    rw [ht]
    have HG := Lib.hid hg
    clear ht
    go_enter Tryd.func43, Tryd.ntmps43
    go_wp2_with fail
    have HB0 := Lib.hid B0
    refine region_grows (Keep (w.alloc (.cells #[.int .i64 0, .string ⟨#[]⟩, .int .i64 0, .int .i64 0] 47))) (by kernel_rfl) (by kernel_rfl) (Keep.refl _).drew ?_
    repeat (first
      | (apply text_pass (by rfl); go_simp)
      | (apply text_step (by rfl)
         · intro W hW
           have c := Box.cells (HO.out.keep (K0.out.trans hW))
           unfold Rdr.pc at c
           go_simp
           exact ⟨rfl, hW⟩
         go_simp))
    apply text_end
    intro W1 hW1
    have HW1 := Lib.hid hW1
    clear hW1
    go_wp2_with fail
    refine region_grows_tail 10 (Keep W1) (by kernel_rfl) (by kernel_rfl) (Keep.refl _).drew ?_
    simp only [List.take_succ_cons, List.take_zero, List.drop_succ_cons, List.drop_zero]
    repeat (first
      | (apply text_step (by rfl)
         · intro W hW
           have kW := K0.out.trans (HW1.out.trans hW)
           have c := Box.cells (HO.out.keep kW)
           unfold Rdr.pc at c
           rw [HG.out] at c
           obtain ⟨g', hg', _, t0, t1, t2, t3⟩ := (HR.out.keep kW).tok HT.out
           rw [HG.out] at hg'
           simp only [Option.some.injEq, Addr.mk.injEq, and_true] at hg'
           subst hg'
           go_simp
           exact ⟨rfl, hW⟩
         go_simp))
    apply text_end
    intro W2 hW2
    have KW := Lib.hid (HW1.out.trans hW2)
    have BW := HB0.out.keep KW.out
    have r0 := BW.cells
    have rf := BW.thawed
    clear hW2
    go_wp2_with fail
    refine bodyPost_ret (v := tokOV (some t)) (by simp [results, Tryd.results43, go_sem, r0, tokOV]; done) rfl ⟨rfl, ?_⟩
    repeat (with_reducible refine Keep.setAt ?_ ?_ _; · first | omega | (simp; done) | (simp; omega))
    exact K0.out.trans KW.out
  · have hpi : (r.toks.length : Int) ≤ (a : Int) := by omega
    have hpd : decide ((r.toks.length : Int) ≤ (a : Int)) = true := decide_eq_true hpi
    rw [List.getElem?_eq_none (by omega)]
    go_enter Tryd.func43, Tryd.ntmps43
    go_wp2_with fail
    have HB0 := Lib.hid B0
    refine region_grows (Keep (w.alloc (.cells #[.int .i64 0, .string ⟨#[]⟩, .int .i64 0, .int .i64 0] 47))) (by kernel_rfl) (by kernel_rfl) (Keep.refl _).drew ?_
    repeat (first
      | (apply text_pass (by rfl); go_simp)
      | (apply text_step (by rfl)
         · intro W hW
           have c := Box.cells (HO.out.keep (K0.out.trans hW))
           unfold Rdr.pc at c
           go_simp
           exact ⟨rfl, hW⟩
         go_simp))
    apply text_end
    intro W1 hW1
    have BW := HB0.out.keep hW1
    have r0 := BW.cells
    have rf := BW.thawed
    have HW1 := Lib.hid hW1
    clear hW1
    go_wp2_with fail
    refine bodyPost_ret (v := tokOV none) (by simp [results, Tryd.results43, go_sem, r0, tokOV]; done) rfl ⟨rfl, ?_⟩
    repeat (with_reducible refine Keep.setAt ?_ ?_ _; · first | omega | (simp; done) | (simp; omega))
    exact K0.out.trans HW1.out
theorem psign_any (r : Rdr) (a : Nat) (w : World) (hr : r.PIn w) (ho : r.POk w a) : Calls Tryd.prog 28 #[.pointer (some ⟨r.b, 0, none⟩)] w fun x w' => x = .returned (.string (sgn r.toks a)) ∧ Keep w w' := by
  have C := Lib.hid (ptoken_any r a w hr ho)
  clear hr ho
  cases h : r.toks[a]? with
  | none =>
    rw [sgn_end h]
    rw [h] at C
    unfold tokOV at C
    clear h
    go_enter Tryd.func28, Tryd.ntmps28
    go_wp2_with fail
    refine C.out.mono ?_
    rintro e w1 ⟨rfl, hk⟩
    have HK := Lib.hid hk
    clear hk
    go_wp2_with fail
    go_ret
    exact ⟨rfl, HK.out.alloc _⟩
  | some t =>
    rw [h] at C
    unfold tokOV at C
    rcases Bool.eq_false_or_eq_true (t.kind == 3) with d | d
    · rw [sgn_sign h (beq_iff_eq.1 d)]
      clear h
      go_enter Tryd.func28, Tryd.ntmps28
      go_wp2_with fail
      refine C.out.mono ?_
      rintro e w1 ⟨rfl, hk⟩
      have HK := Lib.hid hk
      clear hk
      go_wp2_with fail
      go_ret
      exact ⟨rfl, HK.out.alloc _⟩
    · rw [sgn_other h (beq_eq_false_iff_ne.1 d)]
      clear h
      go_enter Tryd.func28, Tryd.ntmps28
      go_wp2_with fail
      refine C.out.mono ?_
      rintro e w1 ⟨rfl, hk⟩
      have HK := Lib.hid hk
      clear hk
      go_wp2_with fail
      go_ret
      exact ⟨rfl, HK.out.alloc _⟩
end Go.Proofs.YtockkidbncpdlaaDoor

/- The program's named: the first name of several. -/
namespace Go.Proofs.YtockkidbncpdlaaDoor
set_option linter.unusedVariables false
set_option linter.unusedSimpArgs false
open Go.RowKit
/-- What named answers. -/
def NamR (N : List (ByteArray × Int)) (pl : Nat) (s : ByteArray) (w : World) (x : Ending) (w' : World) : Prop :=
  Keep w w' ∧ match nameE N s with
  | none => ∃ q, x = .returned (.tuple #[.int .i64 0, faultP q]) ∧ faultB w' q tokenS pl 12
  | some n => match boundE n with
    | some m => x = .returned (.tuple #[.int .i64 m, .nilIface])
    | none => ∃ q, x = .returned (.tuple #[.int .i64 0, faultP q]) ∧ faultB w' q tokenS pl 14
set_option maxHeartbeats 2000000 in
set_option maxRecDepth 100000 in
theorem pnamed_any (r : Rdr) (c : Int) (pl : Nat) (s : ByteArray) (w : World) (hr : r.PIn w) (ho : r.POk w c) : Calls Tryd.prog 45 #[.pointer (some ⟨r.b, 0, none⟩), .int .i64 pl, .string s] w (NamR r.names pl s w) := by
  have CF := Lib.hid (fun W => pfault_any pl 12 W)
  have fewN := hr.fewN
  have capN := hr.capN
  have c0 := ho.cells
  unfold Rdr.pc at c0
  have hn := hr.names
  clear hr ho
  rcases hn with hn | ⟨g, off, hq, hgb, hlt, hx2⟩
  · have HN0 := Lib.hid hn
    have z : r.names.length = 0 := by rw [hn]; rfl
    have z2 : ((r.names.length : Nat) : Int) = 0 := by omega
    clear hn
    go_enter Tryd.func45, Tryd.ntmps45
    go_wp2_with fail
    go_loopw [15] (fun i wr => i = .int .i64 0 ∧ wr = w) (fun i _ => 0)
    case atStart => exact ⟨rfl, rfl⟩
    case round =>
      obtain ⟨rfl, rfl⟩ := hrel
      go_wp2_with fail
      refine (CF.out _).mono ?_
      rintro e w2 ⟨q, rfl, hb, hk⟩
      have HB := Lib.hid hb
      have HK := Lib.hid hk
      clear hb hk
      go_wp2_with fail
      go_ret2
      refine ⟨HK.out, ?_⟩
      rw [HN0.out]
      exact ⟨q, rfl, HB.out⟩
  · rw [hq] at c0
    have HX2 := Lib.hid hx2
    clear hq hx2
    go_enter Tryd.func45, Tryd.ntmps45
    go_wp2_with fail
    go_loopw [15] (fun i wr => ∃ k : Nat, k ≤ r.names.length ∧ i = .int .i64 (k : Int) ∧ (∀ (j : Nat) (x : ByteArray × Int), j < k → r.names[j]? = some x → x.1 ≠ s) ∧ Keep w wr) (fun i _ => r.names.length - (intOf i).toNat)
    case atStart => exact ⟨0, Nat.zero_le _, rfl, fun j x hj => absurd hj (by omega), Keep.refl _⟩
    case round =>
        obtain ⟨k, hk, rfl, hno, hK⟩ := hrel
        have HN := Lib.hid hno
        have HK := Lib.hid hK
        clear hno hK
        by_cases h : k < r.names.length
        · obtain ⟨x, hx⟩ : ∃ x, r.names[k]? = some x := ⟨_, List.getElem?_eq_getElem h⟩
          have HX := Lib.hid hx
          have hki : (k : Int) < (r.names.length : Int) := by omega
          clear hx
          obtain ⟨n0, n1⟩ := HX2.out k x HX.out
          have N0 := HK.out.cellOf n0
          have N1 := HK.out.cellOf n1
          clear n0 n1
          rcases Bool.eq_false_or_eq_true (x.1.toList == s.toList) with dd | dd
          · have e : x.1 = s := by
              rw [str_beq2] at dd
              exact of_decide_eq_true dd
            have HEv : Hid (nameE r.names s = some x.2) := Lib.hid (nameE_at _ _ _ k (by rw [HX.out, ← e]) HN.out)
            clear e
            go_wp2_with fail
            refine (pinside_any _ _ _).mono ?_
            rintro e w4 ⟨hk4, hj⟩
            have K4 := Lib.hid ((HK.out.alloc _).trans hk4)
            clear hk4
            cases hbn : boundE x.2 with
            | none =>
              rw [hbn] at hj
              obtain ⟨q, rfl, hb⟩ := hj
              have HB := Lib.hid hb
              have HB2 := Lib.hid hbn
              clear hb hbn
              go_wp2_with fail
              go_ret2
              refine ⟨K4.out, ?_⟩
              rw [HEv.out]
              simp only [HB2.out]
              exact ⟨q, rfl, HB.out⟩
            | some m =>
              rw [hbn] at hj
              dsimp only at hj
              subst hj
              have HB2 := Lib.hid hbn
              clear hbn
              go_wp2_with fail
              go_ret2
              refine ⟨K4.out, ?_⟩
              rw [HEv.out]
              simp only [HB2.out]
              rfl
          · have HS2 : Hid (∀ (j : Nat) (y : ByteArray × Int), j < k + 1 → r.names[j]? = some y → y.1 ≠ s) := Lib.hid (fun j y hj hy => by
              by_cases e : j = k
              · subst e
                rw [HX.out] at hy
                cases hy
                intro hc
                rw [str_beq2, hc] at dd
                simp at dd
              · exact HN.out j y (by omega) hy)
            go_wp2_with fail
            go_roundw
            case rel => exact ⟨k + 1, h, by go_num, HS2.out, HK.out.alloc _⟩
            case measure => simp [intOf]; omega
        · obtain rfl : k = r.names.length := by omega
          go_wp2_with fail
          refine (CF.out _).mono ?_
          rintro e w2 ⟨q, rfl, hb, hk2⟩
          have HB := Lib.hid hb
          have HK2 := Lib.hid (HK.out.trans hk2)
          clear hb hk2
          go_wp2_with fail
          go_ret2
          refine ⟨HK2.out, ?_⟩
          rw [nameE_no _ _ (fun j x hj => HN.out j x (List.getElem?_eq_some_iff.1 hj).1 hj)]
          exact ⟨q, rfl, HB.out⟩
end Go.Proofs.YtockkidbncpdlaaDoor
