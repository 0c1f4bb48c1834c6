/- The reference's Eval: a constant, from any place of any words. -/
import Derived.Test.YtockkidbncpdlaaGreatDoorEvLev
import Derived.Test.YtockkidbncpdlaaGreatDoorRowAt
namespace Go.Proofs.YtockkidbncpdlaaGreatDoor
set_option linter.unusedVariables false
set_option linter.unusedSimpArgs false
open Go.RowKit
theorem RowAt.isIn {w w' : World} {p : Option Addr} {xs : List Value} (h : RowAt w p xs) (k : Keep w w') {b : Nat} (hb : w.heap.size ≤ b) : RowIn w' b p xs := by
  rcases h with h | ⟨g, vs, h1, h2, h3⟩
  · exact .inl h
  · exact .inr ⟨g, vs, h1, by have := h2.lt; omega, h2.keep k, h3⟩
/-- What Eval answers. -/
def EvalR (toks : List Tok) (names : List (ByteArray × Int)) (at_ : Nat) (w : World) (e : Ending) (w' : World) : Prop :=
  Keep w w' ∧ ((∃ (v : Int) (p : Nat), Ev toks names (.lev 0 at_) 0 (.ok v p) ∧ InB v ∧ p ≤ toks.length ∧ e = .returned (.tuple #[.int .i64 v, .int .i64 p, okV])) ∨
    ∃ (p : Nat) (x : Int), Ev toks names (.lev 0 at_) 0 (.bad p x) ∧ x ≠ 0 ∧ e = .returned (.tuple #[.int .i64 0, .int .i64 0, wrongV tokenS p x]))
set_option maxHeartbeats 1000000 in
theorem reval_any (p : Option Addr) (cap : Nat) (q : Option Addr) (capN : Nat) (toks : List Tok) (names : List (ByteArray × Int)) (at_ : Nat) (ha : at_ ≤ toks.length) (few : toks.length ≤ 1000000) (fewN : names.length ≤ 1000000) (hcap : toks.length ≤ cap) (hcapN : names.length ≤ capN)
    (small : ∀ t ∈ toks, t.kind = 2 → -1099511627776 ≤ t.n ∧ t.n ≤ 1099511627776) (w : World) (ht : RowAt w p (tokRows toks)) (hn : RowAt w q (nameRows names)) :
    Calls Tryz.prog 8 #[.slice p toks.length cap, .int .i64 at_, .slice q names.length capN] w (EvalR toks names at_ w) := by
  have C := Lib.hid (fun W (h1 : Rdr.In ⟨w.heap.size + 1, p, cap, q, capN, toks, names⟩ W) (h2 : Rdr.Ok ⟨w.heap.size + 1, p, cap, q, capN, toks, names⟩ W at_) => (rlevels_all ⟨w.heap.size + 1, p, cap, q, capN, toks, names⟩ (8 * (toks.length - at_) + 7)).1 0 at_ 0 W (by decide) ha (Nat.le_refl _) (by decide) h1 h2)
  have HT := Lib.hid ht
  have HN := Lib.hid hn
  clear ht hn
  go_enter Tryz.func8, Tryz.ntmps8
  go_wp2_with fail
  have hIn : Rdr.In ⟨w.heap.size + 1, p, cap, q, capN, toks, names⟩ ((w.alloc (.cells #[.string ⟨#[]⟩, .int .i64 0, .int .i64 0] 26)).alloc (.cells #[.slice p toks.length cap, .int .i64 at_, .slice q names.length capN, .string ⟨#[]⟩, .int .i64 0, .int .i64 0] 57)) :=
    ⟨HT.out.isIn (((Keep.refl _).alloc _).alloc _) (by simp), HN.out.isIn (((Keep.refl _).alloc _).alloc _) (by simp), few, fewN, hcap, hcapN, small⟩
  refine (C.out _ hIn (Box.new1 _ _ _ _)).mono ?_
  have W0 : Hid (Box ((w.alloc (.cells #[.string ⟨#[]⟩, .int .i64 0, .int .i64 0] 26)).alloc (.cells #[.slice p toks.length cap, .int .i64 at_, .slice q names.length capN, .string ⟨#[]⟩, .int .i64 0, .int .i64 0] 57)) w.heap.size #[.string ⟨#[]⟩, .int .i64 0, .int .i64 0]) := Lib.hid ((Box.new _ _ _).alloc _)
  have K0 : Hid (Keep w ((w.alloc (.cells #[.string ⟨#[]⟩, .int .i64 0, .int .i64 0] 26)).alloc (.cells #[.slice p toks.length cap, .int .i64 at_, .slice q names.length capN, .string ⟨#[]⟩, .int .i64 0, .int .i64 0] 57))) := Lib.hid (((Keep.refl _).alloc _).alloc _)
  clear hIn C
  rintro e w2 ⟨hk2, ⟨n, z, hev, rfl, hn, hp1, hp2, ho2⟩ | ⟨z, x, v, hev, rfl, hv, hb2⟩⟩
  · have B2 := Lib.hid (W0.out.but hk2 (by simp))
    have K2 := Lib.hid (((K0.out.but _).trans hk2).keep (fun k hk => by subst hk; simp))
    have EV := Lib.hid hev
    have PB := Lib.hid (And.intro hn hp2)
    have O2 := Lib.hid ho2
    have c2 := Box.cells ho2
    unfold Rdr.cells at c2
    clear hk2 hev hn hp1 hp2 ho2
    go_wp2_with fail
    refine region_grows_tail 8 (Keep w2) (by kernel_rfl) (by kernel_rfl) (Keep.refl _).drew ?_
    simp only [List.take_succ_cons, List.take_zero, List.drop_succ_cons, List.drop_zero]
    repeat (first
      | (apply text_step (by rfl)
         · intro W hW
           have c1 := Box.cells (Box.keep O2.out hW)
           unfold Rdr.cells at c1
           go_simp
           exact ⟨rfl, hW⟩
         go_simp))
    apply text_end
    intro W hW
    have BW := B2.out.keep hW
    have r0 := BW.cells
    have rf := BW.thawed
    have KW := Lib.hid (K2.out.trans hW)
    clear hW c2
    go_wp2_with fail
    refine bodyPost_ret (v := .tuple #[.int .i64 n, .int .i64 z, .agg #[.string ⟨#[]⟩, .int .i64 0, .int .i64 0]]) (by simp [results, Tryz.results8, go_sem, r0]; done) rfl ⟨?_, .inl ⟨n, z, EV.out, PB.out.1, PB.out.2, rfl⟩⟩
    repeat (with_reducible refine Keep.setAt ?_ ?_ _; · first | omega | (simp; done) | (simp; omega))
    exact KW.out
  · have B2 := Lib.hid (W0.out.but hk2 (by simp))
    have K2 := Lib.hid (((K0.out.but _).trans hk2).keep (fun k hk => by subst hk; simp))
    have EV := Lib.hid hev
    obtain ⟨hx, a2, hb2⟩ := hb2
    have HX := Lib.hid hx
    have hx' : (x == 0) = false := beq_eq_false_iff_ne.2 hx
    have hx2 : (x != 0) = true := by rw [bne, hx']; rfl
    have O2 := Lib.hid hb2
    have c2 := hb2.cells
    unfold Rdr.cells tokenS at c2
    clear hk2 hev hv hb2 hx
    go_wp2_with fail
    refine region_grows_tail 6 (Keep w2) (by kernel_rfl) (by kernel_rfl) (Keep.refl _).drew ?_
    simp only [List.take_succ_cons, List.take_zero, List.drop_succ_cons, List.drop_zero]
    repeat (first
      | (apply text_step (by rfl)
         · intro W hW
           have c1 := Box.cells (O2.out.keep hW)
           unfold Rdr.cells tokenS at c1
           go_simp
           exact ⟨rfl, hW⟩
         go_simp))
    apply text_end
    intro W hW
    have BW := B2.out.keep hW
    have r0 := BW.cells
    have rf := BW.thawed
    have KW := Lib.hid (K2.out.trans hW)
    clear hW c2
    go_wp2_with fail
    refine bodyPost_ret (v := .tuple #[.int .i64 0, .int .i64 0, .agg #[.string ⟨#[116, 111, 107, 101, 110]⟩, .int .i64 z, .int .i64 x]]) (by simp [results, Tryz.results8, go_sem, r0]; done) rfl ⟨?_, .inr ⟨z, x, EV.out, HX.out, rfl⟩⟩
    repeat (with_reducible refine Keep.setAt ?_ ?_ _; · first | omega | (simp; done) | (simp; omega))
    exact KW.out
end Go.Proofs.YtockkidbncpdlaaGreatDoor
