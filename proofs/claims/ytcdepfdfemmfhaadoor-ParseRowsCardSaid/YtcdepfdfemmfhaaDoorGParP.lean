/- ParEnd, ParPOut, ParPFns, ParPEnd, ParPOps, ParPReg, ParPCmd, ParPMem, ParPLn, ParP: Operands by their ends, plain: where the comma behind one stands; what P1401's reader of operands makes of it; the text of a sign. -/
import Derived.Test.YtcdepfdfemmfhaaDoorParTab
import Derived.Test.YtcdepfdfemmfhaaDoorParC
import Derived.Test.YtcdepfdfemmfhaaDoorLineP
import Derived.Test.YtcdepfdfemmfhaaDoorImgNil
import Derived.Maps.AppendAt
import Derived.Test.YtcdepfdfemmfhaaDoorParReg
import Derived.Test.YtcdepfdfemmfhaaDoorShelf
import Derived.Test.YtcdepfdfemmfhaaDoorGPreD
import Derived.Test.YtcdepfdfemmfhaaDoorLexP4
/- Operands by their ends, plain: where the comma behind one stands; what P1401's reader of operands makes of it; the text of a sign. -/
namespace Go.Proofs.YtcdepfdfemmfhaaDoor
set_option linter.unusedVariables false
set_option linter.unusedSimpArgs false
/-- How many words an operand has. -/
def endL : List Tok → Nat → Nat
  | [], _ => 0
  | t :: r, o => if o = 0 ∧ tokIs t sComma = true then 0 else endL r (openAfter t o) + 1
theorem endL_le : ∀ (l : List Tok) (o : Nat), endL l o ≤ l.length
  | [], o => Nat.le_refl _
  | t :: r, o => by
    unfold endL
    have := endL_le r (openAfter t o)
    split
    · exact Nat.zero_le _
    · simp; omega
theorem endL_comma {t : Tok} {r : List Tok} (hc : tokIs t sComma = true) : endL (t :: r) 0 = 0 := by
  unfold endL; rw [if_pos ⟨rfl, hc⟩]
theorem endL_word {t : Tok} {r : List Tok} {o : Nat} (h : ¬ (o = 0 ∧ tokIs t sComma = true)) : endL (t :: r) o = endL r (openAfter t o) + 1 := by
  rw [endL, if_neg h]
theorem opsL_end : ∀ (l : List Tok) (a : Nat) (out : List (List Tok)) (one : List Tok) (o : Nat), endL l o = l.length →
    opsL l a out one o = if one ++ l = [] then .error (a + l.length) else .ok (out ++ [one ++ l])
  | [], a, out, one, o, _ => by simp [opsL]
  | t :: r, a, out, one, o, h => by
    by_cases hc : o = 0 ∧ tokIs t sComma = true
    · obtain ⟨rfl, hc⟩ := hc
      rw [endL_comma hc] at h
      simp at h
    · rw [endL_word hc] at h
      have ih := opsL_end r (a + 1) out (one ++ [t]) (openAfter t o) (by simpa using h)
      rw [opsL, if_neg hc, ih]
      simp
theorem opsL_cut : ∀ (l : List Tok) (a : Nat) (out : List (List Tok)) (one : List Tok) (o : Nat), endL l o < l.length →
    opsL l a out one o = if one ++ l.take (endL l o) = [] then .error (a + endL l o) else opsL (l.drop (endL l o + 1)) (a + endL l o + 1) (out ++ [one ++ l.take (endL l o)]) [] 0
  | [], a, out, one, o, h => by simp at h
  | t :: r, a, out, one, o, h => by
    by_cases hc : o = 0 ∧ tokIs t sComma = true
    · rw [opsL, if_pos hc]
      obtain ⟨rfl, hc⟩ := hc
      rw [endL_comma hc]
      simp
    · rw [endL_word hc] at h ⊢
      have ih := opsL_cut r (a + 1) out (one ++ [t]) (openAfter t o) (by simpa using h)
      rw [opsL, if_neg hc, ih]
      have e : a + 1 + endL r (openAfter t o) = a + (endL r (openAfter t o) + 1) := by omega
      rw [e]
      simp
/-- What P1401 says of the operands behind a word. -/
def opsP (l : List Tok) (a : Nat) : Except Nat (List (List Tok)) := if a = l.length then .ok [] else opsL (l.drop a) a [] [] 0
theorem ops_none {l : List Tok} {k : Nat} {os : List (List Tok)} (h : endL (l.drop k) 0 = 0) : opsL (l.drop k) k os [] 0 = .error k := by
  by_cases hl : (l.drop k).length = 0
  · have e : l.drop k = [] := List.length_eq_zero_iff.1 hl
    rw [e]; simp [opsL]
  · rw [opsL_cut _ _ _ _ _ (by omega), h]; simp
theorem ops_last {l : List Tok} {k : Nat} {os : List (List Tok)} (hk : k ≤ l.length) (h : endL (l.drop k) 0 ≠ 0) (hl : k + endL (l.drop k) 0 = l.length) : opsL (l.drop k) k os [] 0 = .ok (os ++ [(l.drop k).take (endL (l.drop k) 0)]) := by
  have e : (l.drop k).length = l.length - k := by simp
  rw [opsL_end _ _ _ _ _ (by omega), List.take_of_length_le (by omega), List.nil_append, if_neg]
  intro h0
  rw [h0] at e; simp at e; omega
theorem ops_more {l : List Tok} {k : Nat} {os : List (List Tok)} (hk : k ≤ l.length) (h : endL (l.drop k) 0 ≠ 0) (hl : k + endL (l.drop k) 0 < l.length) : opsL (l.drop k) k os [] 0 = opsL (l.drop (k + endL (l.drop k) 0 + 1)) (k + endL (l.drop k) 0 + 1) (os ++ [(l.drop k).take (endL (l.drop k) 0)]) [] 0 := by
  have e : (l.drop k).length = l.length - k := by simp
  rw [opsL_cut _ _ _ _ _ (by omega), List.nil_append, if_neg, List.drop_drop]
  · congr 2
  · intro h0
    have := congrArg List.length h0
    simp at this; omega
/-- A sign's text; nothing, if it is none. -/
def sgT (t : Tok) : ByteArray := if t.kind = 3 then t.text else noB
theorem sgT_is {t : Tok} {s : ByteArray} (h : tokIs t s = true) : sgT t = s := by
  unfold tokIs at h
  simp at h
  unfold sgT
  rw [if_pos h.1, h.2]
theorem sgT_not {t : Tok} {s : ByteArray} (hs : s ≠ noB) (h : tokIs t s = false) : sgT t ≠ s := by
  unfold sgT
  intro e
  by_cases k : t.kind = 3
  · rw [if_pos k] at e
    unfold tokIs at h
    simp [k, e] at h
  · rw [if_neg k] at e
    exact hs e.symm
theorem tokIs_one {t : Tok} {s s' : ByteArray} (hs : s ≠ s') (h : tokIs t s = true) : tokIs t s' = false := by
  unfold tokIs at h ⊢
  simp at h ⊢
  intro _ e
  exact hs (h.2.symm.trans e)
end Go.Proofs.YtcdepfdfemmfhaaDoor

/- The program's row of rows of words: each its own. -/
namespace Go.Proofs.YtcdepfdfemmfhaaDoor
set_option linter.unusedVariables false
set_option linter.unusedSimpArgs false
open Go.RowKit
theorem infoPSl : (Tryd.prog.info? 34).map (fun i => (i.zero, i.size, i.bytes)) = some (some (.slice none 0 0), 1, 24) := by kernel_rfl
/-- A row of rows: each its own, none in the block of the row of all. -/
def OutP (w : World) (base : Nat) (v : Value) (out : List (List Tok)) : Prop := ∃ svs : List Value, svs.length = out.length ∧ w.ownsRow base 34 1 v out.length svs ∧
  ∀ (i : Nat) (sv : Value) (l : List Tok), svs[i]? = some sv → out[i]? = some l → w.ownsRow base 45 4 sv l.length (tokRows l) ∧ ∀ g, sv.ownBlock = some g → v.ownBlock ≠ some g
theorem OutP.keep {w w' : World} {base : Nat} {v : Value} {out : List (List Tok)} (h : OutP w base v out) (k : Keep w w') : OutP w' base v out := by
  obtain ⟨svs, h1, h2, h3⟩ := h
  exact ⟨svs, h1, owns_keep h2 k, fun i sv l a b => ⟨owns_keep (h3 i sv l a b).1 k, (h3 i sv l a b).2⟩⟩
theorem OutP.nil (w : World) (base : Nat) : OutP w base (.slice none 0 0) [] := ⟨[], rfl, World.ownsRow_nil _ _ _ _, fun i sv l h => by simp at h⟩
theorem OutP.but {w w' : World} {S : Nat → Prop} {base : Nat} {v : Value} {out : List (List Tok)} (h : OutP w base v out) (k : KeepBut S w w') (hS : ∀ g, base ≤ g → ¬ S g) : OutP w' base v out := by
  obtain ⟨svs, h1, h2, h3⟩ := h
  exact ⟨svs, h1, owns_but h2 k (fun g hg => hS g (World.ownsRow.lt h2 g hg).1), fun i sv l a b => ⟨owns_but (h3 i sv l a b).1 k (fun g hg => hS g (World.ownsRow.lt (h3 i sv l a b).1 g hg).1), (h3 i sv l a b).2⟩⟩
theorem OutP.base {w : World} {base base' : Nat} {v : Value} {out : List (List Tok)} (h : OutP w base v out) (hb : base' ≤ base) : OutP w base' v out := by
  obtain ⟨svs, h1, h2, h3⟩ := h
  exact ⟨svs, h1, owns_base h2 hb, fun i sv l a b => ⟨owns_base (h3 i sv l a b).1 hb, (h3 i sv l a b).2⟩⟩
theorem OutP.slice {w : World} {base : Nat} {v : Value} {out : List (List Tok)} (h : OutP w base v out) : ∃ p c, v = .slice p out.length c := by
  obtain ⟨svs, h1, h2, h3⟩ := h
  obtain ⟨p, cap, rfl, _, _⟩ := own_at h2
  exact ⟨p, cap, rfl⟩
/-- One row more in the row of rows. -/
theorem OutP.grow {W w3 : World} {base : Nat} {v v' sv : Value} {out : List (List Tok)} {l : List Tok} {svs : List Value} (h1 : svs.length = out.length) (h3 : ∀ (i : Nat) (sv : Value) (l : List Tok), svs[i]? = some sv → out[i]? = some l → W.ownsRow base 45 4 sv l.length (tokRows l) ∧ ∀ g, sv.ownBlock = some g → v.ownBlock ≠ some g)
    (hs : W.ownsRow base 45 4 sv l.length (tokRows l)) (hsn : ∀ g, sv.ownBlock = some g → v.ownBlock ≠ some g) (hown : w3.ownsRow base 34 1 v' (out.length + 1) (svs ++ [sv])) (hg : W.grownBy w3 v.ownBlock) (hb : v'.ownBlock = v.ownBlock ∨ v'.ownBlock = some W.heap.size) :
    OutP w3 base v' (out ++ [l]) := by
  have new : ∀ (u : Value) (m : List Tok), W.ownsRow base 45 4 u m.length (tokRows m) → (∀ g, u.ownBlock = some g → v.ownBlock ≠ some g) → w3.ownsRow base 45 4 u m.length (tokRows m) ∧ ∀ g, u.ownBlock = some g → v'.ownBlock ≠ some g := by
    intro u m hu hn
    refine ⟨owns_grown hu hg (fun g hg' => hn g hg'), fun g hg' => ?_⟩
    rcases hb with hb | hb
    · rw [hb]; exact hn g hg'
    · rw [hb]
      intro e
      have := (World.ownsRow.lt hu g hg').2
      cases e
      omega
  refine ⟨svs ++ [sv], by simp [h1], by simpa using hown, fun i u m hu hm => ?_⟩
  by_cases hi : i < out.length
  · rw [List.getElem?_append_left (by omega)] at hu
    rw [List.getElem?_append_left hi] at hm
    exact new u m (h3 i u m hu hm).1 (h3 i u m hu hm).2
  · have hi2 : i = out.length := by
      have := (List.getElem?_eq_some_iff.1 hm).1
      simp at this; omega
    subst hi2
    rw [List.getElem?_append_right (by omega), ← h1, Nat.sub_self] at hu
    rw [List.getElem?_append_right (Nat.le_refl _), Nat.sub_self] at hm
    simp at hu hm
    subst hu hm
    exact new _ _ hs hsn
theorem OutP.args {w : World} {base : Nat} {v : Value} {out : List (List Tok)} (h : OutP w base v out) : ArgsAt w v out := by
  obtain ⟨svs, h1, h2, h3⟩ := h
  obtain ⟨p, cap, rfl, hc, hr⟩ := own_at h2
  refine ⟨p, cap, rfl, hc, ?_⟩
  rcases hr with hr | ⟨g, vs, hp, hB, hx⟩
  · left; rw [hr] at h1; exact List.length_eq_zero_iff.1 h1.symm
  · refine .inr ⟨g, 0, hp, hB.lt, fun i l hl => ?_⟩
    have hi := (List.getElem?_eq_some_iff.1 hl).1
    have hs : svs[i]? = some (svs[i]'(by omega)) := List.getElem?_eq_getElem (by omega)
    refine ⟨svs[i]'(by omega), ?_, own_toks (h3 i _ l hs hl).1⟩
    rw [hB.cells, Nat.zero_add, hx i (by omega), hs]
end Go.Proofs.YtcdepfdfemmfhaaDoor

/- The program's small functions of lines: a sign's text, a fault, a copy of words. -/
namespace Go.Proofs.YtcdepfdfemmfhaaDoor
set_option linter.unusedVariables false
set_option linter.unusedSimpArgs false
open Go.RowKit
def tokAgg (t : Tok) : Value := .agg #[.int .i64 t.kind, .string t.text, .int .i64 t.n, .int .i64 t.pl]
theorem psgt_any (t : Tok) (w : World) : Calls Tryd.prog 13 #[tokAgg t] w fun e w' => e = .returned (.string (sgT t)) ∧ Keep w w' := by
  unfold tokAgg
  rcases Bool.eq_false_or_eq_true (t.kind == 3) with d | d
  · have e : sgT t = t.text := if_pos (beq_iff_eq.1 d)
    rw [e]
    clear e
    go_enter Tryd.func13, Tryd.ntmps13
    go_wp2_with fail
    go_ret
    exact ⟨rfl, (Keep.refl _).alloc _⟩
  · have e : sgT t = noB := if_neg (beq_eq_false_iff_ne.1 d)
    rw [e]
    clear e
    go_enter Tryd.func13, Tryd.ntmps13
    go_wp2_with fail
    go_ret
    exact ⟨rfl, (Keep.refl _).alloc _⟩
theorem ppfault_any (a : Nat) (x : Int) (w : World) : Calls Tryd.prog 21 #[.int .i64 a, .iface 55 (.int .i64 x)] w fun e w' => ∃ q, e = .returned (faultP q) ∧ fltB w' q tokS a x ∧ Keep w w' := by
  go_enter Tryd.func21, Tryd.ntmps21
  go_wp2_with fail
  go_ret
  exact ⟨_, rfl, Box.new _ _ _, (Keep.refl _).alloc _⟩
set_option maxHeartbeats 1000000 in
set_option maxRecDepth 100000 in
theorem pfresh_any (v : Value) (l : List Tok) (few : l.length ≤ 10000) (w : World) (h : TokAt w v l) : Calls Tryd.prog 14 #[v] w fun e w' => ∃ u, e = .returned u ∧ w'.ownsRow w.heap.size 45 4 u l.length (tokRows l) ∧ Keep w w' := by
  obtain ⟨i0, hi0, hz0, hz1, hz2⟩ := info_parts infoLTok
  obtain ⟨p, cap, rfl, hc, hl⟩ := h
  cases p with
  | none =>
    have e : l = [] := by
      rcases hl with h | ⟨b, off, h, _⟩
      · exact h
      · cases h
    subst e
    go_enter Tryd.func14, Tryd.ntmps14
    go_wp2_with (at_builtin; refine wpList_append_nil rfl _ _ 34 rfl 45 i0 Tryd.underlying34 hi0 none _ 0 cap rfl rfl (Nat.le_refl _) ?_)
    go_ret
    exact ⟨_, rfl, World.ownsRow_nil _ _ _ _, Keep.refl _⟩
  | some ad =>
    have hnews : ∀ j u, (tokRows l)[j]? = some u → w.cell? (ad.add j) = some u := by
      intro j u hj
      rcases hl with rfl | ⟨b, off, h4, _, h5⟩
      · simp [tokRows] at hj
      · obtain rfl : ad = ⟨b, off, none⟩ := Option.some.inj h4
        rw [show (⟨b, off, none⟩ : Addr).add j = ⟨b, off + j, none⟩ by unfold Addr.add; split <;> simp_all]
        have hlen := tokRows_length l
        have hj' := (List.getElem?_eq_some_iff.1 hj).1
        have hq : j / 4 < l.length := by omega
        obtain ⟨t, ht⟩ : ∃ t, l[j / 4]? = some t := ⟨_, List.getElem?_eq_getElem hq⟩
        have hr := tokRows_row l (j / 4) (j % 4) (Nat.mod_lt _ (by decide)) t ht
        rw [show j / 4 * 4 + j % 4 = j by omega, hj] at hr
        obtain ⟨c0, c1, c2, c3⟩ := h5 (j / 4) t ht
        have hm : j % 4 < 4 := Nat.mod_lt _ (by decide)
        have ej : off + j = off + j / 4 * 4 + j % 4 := by omega
        rw [ej]
        generalize j % 4 = m at hr hm
        match m, hm with
        | 0, _ => rw [Nat.add_zero, c0]; simpa [tokRow] using hr.symm
        | 1, _ => rw [c1]; simpa [tokRow] using hr.symm
        | 2, _ => rw [c2]; simpa [tokRow] using hr.symm
        | 3, _ => rw [c3]; simpa [tokRow] using hr.symm
    clear hl
    go_enter Tryd.func14, Tryd.ntmps14
    go_wp2_with (at_builtin; refine wpList_append_own _ rfl _ _ 34 rfl w.heap.size 45 i0 _ 4 40 Tryd.underlying34 hi0 hz0 hz1 hz2 rfl (by decide) _ 0 [] rfl (World.ownsRow_nil _ _ _ _) ad l.length cap (tokRows l) rfl (tokRows_length l) hnews (tokRows_one l) ?c3 ?c4 (Nat.le_refl _) ?_)
    case c3 => unfold maxLen; omega
    case c4 => omega
    intro v' w3 hown' hgrow _
    have KG := Lib.hid (grown_keep (Keep.refl w) hgrow (fun c hc => by cases hc))
    have OG := Lib.hid hown'
    clear hgrow hown'
    go_wp2_with fail
    go_ret
    exact ⟨_, rfl, by simpa using OG.out, KG.out⟩
end Go.Proofs.YtcdepfdfemmfhaaDoor

/- The program's operandEnd: where an operand ends. -/
namespace Go.Proofs.YtcdepfdfemmfhaaDoor
set_option linter.unusedVariables false
set_option linter.unusedSimpArgs false
open Go.RowKit
/-- The cells of the word at a place. -/
theorem TokAt.at {w : World} {p : Option Addr} {cap k : Nat} {l : List Tok} {t : Tok} (h : TokAt w (.slice p l.length cap) l) (ht : l[k]? = some t) : ∃ b off, p = some ⟨b, off, none⟩ ∧ b < w.heap.size ∧ (w.cell? ⟨b, off + k * 4, none⟩ = some (.int .i64 t.kind) ∧ w.cell? ⟨b, off + k * 4 + 1, none⟩ = some (.string t.text) ∧ w.cell? ⟨b, off + k * 4 + 2, none⟩ = some (.int .i64 t.n) ∧ w.cell? ⟨b, off + k * 4 + 3, none⟩ = some (.int .i64 t.pl)) := by
  obtain ⟨p', cap', e, _, h3⟩ := h
  cases e
  rcases h3 with h0 | ⟨b, off, h4, h5, h6⟩
  · rw [h0] at ht; simp at ht
  · exact ⟨b, off, h4, h5, h6 k t ht⟩
theorem sL_ne : sLeft ≠ noB := by decide +kernel
theorem sR_ne : sRight ≠ noB := by decide +kernel
theorem sC_ne : sComma ≠ noB := by decide +kernel
theorem sCol_ne : sColon ≠ noB := by decide +kernel
/-- The ways of a sign where an operand is read. -/
theorem sign_ways (t : Tok) (o : Nat) : (sgT t = sLeft ∧ openAfter t o = o + 1 ∧ tokIs t sComma = false) ∨ (sgT t = sRight ∧ 0 < o ∧ openAfter t o = o - 1 ∧ tokIs t sComma = false) ∨ (sgT t = sRight ∧ o = 0 ∧ openAfter t o = o ∧ tokIs t sComma = false) ∨ (sgT t = sComma ∧ openAfter t o = o ∧ tokIs t sComma = true) ∨ (sgT t ≠ sLeft ∧ sgT t ≠ sRight ∧ sgT t ≠ sComma ∧ openAfter t o = o ∧ tokIs t sComma = false) := by
  rcases word_ways t o with ⟨w1, w2, w3⟩ | ⟨w1, w2, w4, w3⟩ | ⟨w1, w2, w4, w3⟩ | ⟨w1, w2, w3⟩
  · exact .inl ⟨sgT_is w1, w3, tokIs_one (by decide +kernel) w1⟩
  · exact .inr (.inl ⟨sgT_is w2, w4, w3, tokIs_one (by decide +kernel) w2⟩)
  · exact .inr (.inr (.inl ⟨sgT_is w2, w4, w3, tokIs_one (by decide +kernel) w2⟩))
  · cases c : tokIs t sComma with
    | true => exact .inr (.inr (.inr (.inl ⟨sgT_is c, w3, rfl⟩)))
    | false => exact .inr (.inr (.inr (.inr ⟨sgT_not sL_ne w1, sgT_not sR_ne w2, sgT_not sC_ne c, w3, rfl⟩)))
set_option maxHeartbeats 2000000 in
set_option maxRecDepth 100000 in
theorem pend_any (v : Value) (l : List Tok) (few : l.length ≤ 10000) (a : Nat) (ha : a ≤ l.length) (w : World) (h : TokAt w v l) :
    Calls Tryd.prog 48 #[v, .int .i64 (a : Int)] w fun e w' => e = .returned (.int .i64 ((a + endL (l.drop a) 0 : Nat) : Int)) ∧ Keep w w' := by
  have HT := Lib.hid h
  obtain ⟨p, cap, rfl, hc, hl⟩ := h
  clear hl
  obtain ⟨R, hR⟩ : ∃ R, R = a + endL (l.drop a) 0 := ⟨_, rfl⟩
  rw [← hR]
  have HR := Lib.hid hR
  clear hR
  go_enter Tryd.func48, Tryd.ntmps48
  go_wp2_with fail
  go_loopw [1, 5] (fun a' o' wr => ∃ k o : Nat, k ≤ l.length ∧ a' = .int .i64 (k : Int) ∧ o' = .int .i64 (o : Int) ∧ o ≤ k ∧ R = k + endL (l.drop k) o ∧ Keep w wr) (fun a' _ _ => l.length - (intOf a').toNat)
  case atStart => exact ⟨a, 0, ha, rfl, rfl, by omega, HR.out, Keep.refl _⟩
  case round =>
    obtain ⟨k, o, hk, rfl, rfl, hok, hE, hK⟩ := hrel
    have HE := Lib.hid hE
    have HK := Lib.hid hK
    clear hE hK HR
    have k0 : (0 : Int) ≤ (k : Int) := Int.natCast_nonneg _
    have o0 : (0 : Int) ≤ (o : Int) := Int.natCast_nonneg _
    by_cases hkl : k < l.length
    · obtain ⟨t, ht⟩ : ∃ t, l[k]? = some t := ⟨_, List.getElem?_eq_getElem hkl⟩
      have hkl' : (k : Int) < (l.length : Int) := by omega
      have hd : l.drop k = t :: l.drop (k + 1) := by
        rw [List.drop_eq_getElem_cons hkl]; congr 1; rw [List.getElem?_eq_getElem hkl] at ht; exact Option.some.inj ht
      obtain ⟨b, off, rfl, hb, c0, c1, c2, c3⟩ := (HT.out.keep HK.out).at ht
      have CS := Lib.hid (fun W => psgt_any t W)
      unfold tokAgg at CS
      have E0 := HE.out
      rw [hd] at E0
      have ways := sign_ways t o
      clear ht hd HE
      rcases ways with ⟨w1, w2, w3⟩ | ⟨w1, w4, w2, w3⟩ | ⟨w1, w4, w2, w3⟩ | ⟨w1, w2, w3⟩ | ⟨w1, w4, w5, w2, w3⟩
      · rw [endL_word (fun h => by rw [w3] at h; cases h.2), w2] at E0
        have HE := Lib.hid E0
        rw [w1] at CS
        unfold sLeft at CS
        clear E0 w1 w2 w3
        go_wp2_with ((with_reducible refine (CS.out _).mono ?_); rintro e w1 ⟨rfl, hk1⟩; have K1 := Lib.hid (HK.out.trans hk1); clear hk1)
        go_roundw
        case rel => exact ⟨k + 1, o + 1, by omega, by go_num, by go_num, by omega, by rw [HE.out]; omega, K1.out⟩
        case measure => simp [intOf]; omega
      · rw [endL_word (fun h => by rw [w3] at h; cases h.2), w2] at E0
        have HE := Lib.hid E0
        rw [w1] at CS
        unfold sRight at CS
        have q2 : max ((o : Int) - 1) 0 = ((o - 1 : Nat) : Int) := by omega
        clear E0 w1 w2 w3
        go_wp2_with ((with_reducible refine (CS.out _).mono ?_); rintro e w1 ⟨rfl, hk1⟩; have K1 := Lib.hid (HK.out.trans hk1); clear hk1)
        go_roundw
        case rel => exact ⟨k + 1, o - 1, by omega, by go_num, by first | (congr 1; done) | (congr 1; omega), by omega, by rw [HE.out]; omega, K1.out⟩
        case measure => simp [intOf]; omega
      · rw [endL_word (fun h => by rw [w3] at h; cases h.2), w2] at E0
        have HE := Lib.hid E0
        rw [w1] at CS
        unfold sRight at CS
        subst w4
        clear E0 w1 w2 w3
        go_wp2_with ((with_reducible refine (CS.out _).mono ?_); rintro e w1 ⟨rfl, hk1⟩; have K1 := Lib.hid (HK.out.trans hk1); clear hk1)
        go_roundw
        case rel => exact ⟨k + 1, 0, by omega, by go_num, by first | rfl | (congr 1; omega), by omega, by rw [HE.out]; omega, K1.out⟩
        case measure => simp [intOf]; omega
      · rw [w1] at CS
        unfold sComma at CS
        by_cases z : o = 0
        · subst z
          rw [endL_comma w3] at E0
          have HE := Lib.hid E0
          clear E0 w1 w2 w3
          go_wp2_with ((with_reducible refine (CS.out _).mono ?_); rintro e w1 ⟨rfl, hk1⟩; have K1 := Lib.hid (HK.out.trans hk1); clear hk1)
          go_ret
          exact ⟨by rw [HE.out]; rfl, K1.out⟩
        · have zb : ((o : Int) == 0) = false := by simp; omega
          rw [endL_word (fun h => z h.1), w2] at E0
          have HE := Lib.hid E0
          clear E0 w1 w2 w3
          go_wp2_with ((with_reducible refine (CS.out _).mono ?_); rintro e w1 ⟨rfl, hk1⟩; have K1 := Lib.hid (HK.out.trans hk1); clear hk1)
          go_roundw
          case rel => exact ⟨k + 1, o, by omega, by go_num, rfl, by omega, by rw [HE.out]; omega, K1.out⟩
          case measure => simp [intOf]; omega
      · rw [endL_word (fun h => by rw [w3] at h; cases h.2), w2] at E0
        have HE := Lib.hid E0
        generalize sgT t = S at CS w1 w4 w5
        have n1 := strEq S sLeft
        have n2 := strEq S sRight
        have n3 := strEq S sComma
        rw [decide_eq_false w1] at n1
        rw [decide_eq_false w4] at n2
        rw [decide_eq_false w5] at n3
        have t1 : sLeft.toList = [40] := by decide +kernel
        have t2 : sRight.toList = [41] := by decide +kernel
        have t3 : sComma.toList = [44] := by decide +kernel
        rw [t1] at n1
        rw [t2] at n2
        rw [t3] at n3
        clear E0 w1 w2 w3 w4 w5 t1 t2 t3
        go_wp2_with ((with_reducible refine (CS.out _).mono ?_); rintro e w1 ⟨rfl, hk1⟩; have K1 := Lib.hid (HK.out.trans hk1); clear hk1)
        go_roundw
        case rel => exact ⟨k + 1, o, by omega, by go_num, rfl, by omega, by rw [HE.out]; omega, K1.out⟩
        case measure => simp [intOf]; omega
    · obtain rfl : k = l.length := by omega
      have E0 := HE.out
      rw [List.drop_eq_nil_of_le (Nat.le_refl _)] at E0
      have HE2 : Hid (R = l.length) := Lib.hid E0
      clear E0 HE
      go_wp2_with fail
      go_ret
      exact ⟨by rw [HE2.out] <;> rfl, HK.out⟩
end Go.Proofs.YtcdepfdfemmfhaaDoor

/- The program's operands: words between commas, each in its own memory. -/
namespace Go.Proofs.YtcdepfdfemmfhaaDoor
set_option linter.unusedVariables false
set_option linter.unusedSimpArgs false
open Go.RowKit
/-- What operands answers. -/
def OpsPR (l : List Tok) (a : Nat) (w : World) (e : Ending) (w' : World) : Prop := match opsP l a with
  | .error p => ∃ q, e = .returned (.tuple #[.slice none 0 0, faultP q]) ∧ fltB w' q tokS p 11
  | .ok out => ∃ v, e = .returned (.tuple #[v, .nilIface]) ∧ OutP w' w.heap.size v out
theorem OpsPR.bad {l : List Tok} {a p q : Nat} {w w' : World} (h : opsP l a = .error p) (hb : fltB w' q tokS p 11) : OpsPR l a w (.returned (.tuple #[.slice none 0 0, faultP q])) w' := by unfold OpsPR; rw [h]; exact ⟨q, rfl, hb⟩
theorem OpsPR.ok {l : List Tok} {a : Nat} {w w' : World} {out : List (List Tok)} {v : Value} (h : opsP l a = .ok out) (hv : OutP w' w.heap.size v out) : OpsPR l a w (.returned (.tuple #[v, .nilIface])) w' := by unfold OpsPR; rw [h]; exact ⟨v, rfl, hv⟩
/-- Where the loop stands. -/
def OpPAt (l : List Tok) (a : Nat) (w : World) (at_ all more : Value) (wr : World) : Prop :=
  ∃ (k : Nat) (m : Bool) (os : List (List Tok)), k ≤ l.length + 1 ∧ at_ = .int .i64 (k : Int) ∧ more = .bool m ∧ os.length ≤ k ∧ (m = true → k ≤ l.length ∧ opsP l a = opsL (l.drop k) k os [] 0) ∧ (m = false → opsP l a = .ok os) ∧
    OutP wr w.heap.size all os ∧ Keep w wr
set_option maxHeartbeats 2000000 in
set_option maxRecDepth 100000 in
theorem poperands_any (v : Value) (l : List Tok) (few : l.length ≤ 10000) (a : Nat) (ha : a ≤ l.length) (w : World) (h : TokAt w v l) :
    Calls Tryd.prog 39 #[v, .int .i64 (a : Int)] w fun e w' => OpsPR l a w e w' ∧ Keep w w' := by
  obtain ⟨iS, hiS, hzS0, hzS1, hzS2⟩ := info_parts infoPSl
  have HT := Lib.hid h
  obtain ⟨p, cap, rfl, hc, hl⟩ := h
  clear hl
  have a0 : (0 : Int) ≤ (a : Int) := Int.natCast_nonneg _
  go_enter Tryd.func39, Tryd.ntmps39
  go_wp2_with fail
  go_loopw [1, 6, 7] (fun a' all more wr => OpPAt l a w a' all more wr) (fun a' _ _ _ => l.length + 1 - (intOf a').toNat)
  case atStart =>
    refine ⟨a, decide (a < l.length), [], by omega, rfl, rfl, by simp, fun e => ?_, fun e => ?_, OutP.nil _ _, Keep.refl _⟩
    · have := of_decide_eq_true e
      refine ⟨by omega, ?_⟩
      unfold opsP
      rw [if_neg (by omega)]
    · have := of_decide_eq_false e
      unfold opsP
      rw [if_pos (by omega)]
  case round =>
    obtain ⟨k, m, os, hk, rfl, rfl, hos, hT, hF, hO, hK⟩ := hrel
    have HO := Lib.hid hO
    have HK := Lib.hid hK
    cases m with
    | false =>
      have HF := Lib.hid (hF rfl)
      clear hF hT hO hK
      go_wp2_with fail
      go_ret2
      exact ⟨OpsPR.ok HF.out HO.out, HK.out⟩
    | true =>
      obtain ⟨hkl, hE⟩ := hT rfl
      have HE := Lib.hid hE
      clear hT hF hO hK hE
      have k0 : (0 : Int) ≤ (k : Int) := Int.natCast_nonneg _
      have CE := Lib.hid (pend_any _ l few k hkl _ (HT.out.keep HK.out))
      have hen := endL_le (l.drop k) 0
      rw [List.length_drop] at hen
      have hz := ops_none (l := l) (k := k) (os := os)
      have hla := ops_last (l := l) (k := k) (os := os) hkl
      have hmo := ops_more (l := l) (k := k) (os := os) hkl
      generalize endL (l.drop k) 0 = n at CE hen hz hla hmo
      by_cases n0 : n = 0
      · subst n0
        have HE2 := Lib.hid (HE.out.trans (hz rfl))
        have CF := Lib.hid (fun W => ppfault_any k 11 W)
        clear hz hla hmo
        go_wp2_with fail
        refine CE.out.mono ?_
        rintro e w1 ⟨rfl, hk1⟩
        have K1 := Lib.hid (HK.out.trans hk1)
        clear hk1
        go_wp2_with fail
        refine (CF.out _).mono ?_
        rintro e w2 ⟨q, rfl, hb, hk2⟩
        have K2 := Lib.hid (K1.out.trans hk2)
        have HB := Lib.hid hb
        clear hk2 hb
        unfold faultP
        go_wp2_with fail
        go_ret2
        exact ⟨OpsPR.bad HE2.out HB.out, K2.out⟩
      · have nb : (((k + n : Nat) : Int) == (k : Int)) = false := by simp; omega
        have hkn : (k : Int) + (n : Int) ≤ (l.length : Int) := by omega
        obtain ⟨b, off, rfl, hb, _⟩ := HT.out.at (List.getElem?_eq_getElem (by omega : k < l.length))
        have CP := Lib.hid (fun W (hk : Keep w W) => pfresh_any _ ((l.drop k).take n) (by simp; omega) W ((HT.out.keep hk).part k n (by omega) (some ⟨b, off + k * 4, none⟩) (cap - k) (fun _ => ⟨b, off, rfl, rfl⟩) (by omega)))
        have ln : ((l.drop k).take n).length = n := by simp; omega
        have hkd : (((k + n : Nat) : Int)) = (k : Int) + (n : Int) := by omega
        obtain ⟨svs, s1, s2, s3⟩ := HO.out
        go_wp2_with fail
        refine CE.out.mono ?_
        rintro e w1 ⟨rfl, hk1⟩
        have K1 := Lib.hid (HK.out.trans hk1)
        go_wp2_with fail
        refine (CP.out _ K1.out).mono ?_
        rintro e w2 ⟨u, rfl, hu, hk2⟩
        have K2 := Lib.hid (K1.out.trans hk2)
        rw [ln] at hu
        obtain ⟨pu, cu, rfl, _, _⟩ := own_at hu
        have HU := Lib.hid hu
        have S1 := Lib.hid s1
        have S2 := Lib.hid s2
        have S3 := Lib.hid s3
        have k02 : Keep wr w2 := (hk1.trans hk2)
        have K02 := Lib.hid k02
        have sz1 : wr.heap.size ≤ w1.heap.size := hk1.size
        have sep : ∀ g, (Value.slice pu n cu).ownBlock = some g → u6.ownBlock ≠ some g := fun g hg e => by
          have e1 := (World.ownsRow.lt hu g hg).1
          have e2 := (World.ownsRow.lt s2 g e).2
          omega
        have SEP := Lib.hid sep
        clear hk2 hu s1 s2 s3 k02 sep hk1 hz
        go_wp2_with (at_builtin; (refine wpList_append_own_at _ rfl _ _ 25 rfl w.heap.size 34 iS _ 1 24 Tryd.underlying25 hiS hzS0 hzS1 hzS2 rfl (by decide) _ _ _ rfl ((owns_keep S2.out K02.out).alloc _) ⟨w2.heap.size, 0, none⟩ 1 1 [.slice pu n cu] rfl rfl ?c1 ?c2 ?c3 ?c4 ?c5 ?_))
        case c1 =>
          have BR := Box.new w2 #[.slice pu n cu] 34
          intro j u hj
          match j, hj with
          | 0, hj => simp at hj; subst hj; simp [Addr.add, BR.cells]
          | (n + 1), hj => simp at hj
        case c2 => intro u hu; simp at hu; subst hu; rfl
        case c3 => unfold maxLen; omega
        case c4 => omega
        case c5 => have := K2.out.size; simp; omega
        intro v' w3 hown' hgrow _ hblk
        have OG := Lib.hid (OutP.grow S1.out (fun i sv l' e1 e2 => ⟨owns_keep (S3.out i sv l' e1 e2).1 (K02.out.alloc _), (S3.out i sv l' e1 e2).2⟩) (owns_base (owns_keep (by rw [ln]; exact HU.out) ((Keep.refl _).alloc _)) (K1.out.size)) (SEP.out) hown' hgrow (by simpa using hblk))
        have KG := Lib.hid (grown_keep (K2.out.alloc _) hgrow (fun c hc => by have := (World.ownsRow.lt S2.out c hc).1; omega))
        clear hgrow hown' hblk
        go_wp2_with fail
        go_roundw
        case rel =>
          refine ⟨k + n + 1, _, os ++ [(l.drop k).take n], by omega, by go_num, rfl, by simp; omega, fun e => ?_, fun e => ?_, OG.out, KG.out⟩
          · have e2 : k + n < l.length := by simp at e; omega
            exact ⟨by omega, HE.out.trans (hmo n0 e2)⟩
          · have e2 : ¬ k + n < l.length := by simp at e; omega
            exact HE.out.trans (hla n0 (by omega))
        case measure => simp [intOf]; omega
end Go.Proofs.YtcdepfdfemmfhaaDoor

/- The program's Reg: one name c0 to c15. -/
namespace Go.Proofs.YtcdepfdfemmfhaaDoor
set_option linter.unusedVariables false
set_option linter.unusedSimpArgs false
open Go.RowKit
set_option maxHeartbeats 2000000 in
set_option maxRecDepth 100000 in
theorem preg14_any (v : Value) (l : List Tok) (w : World) (few : l.length ≤ 10000) (h : TokAt w v l) :
    Calls Tryd.prog 7 #[v] w fun e w' => e = .returned (regV (regL l)) ∧ Keep w w' := by
  obtain ⟨p, cap, rfl, hc, hl⟩ := h
  match l, hl with
  | [], hl =>
    clear hl
    go_enter Tryd.func7, Tryd.ntmps7
    go_wp2_with fail
    go_ret2
    exact ⟨rfl, Keep.refl _⟩
  | t :: u :: r, hl =>
    have e : regL (t :: u :: r) = none := rfl
    have q : (((t :: u :: r).length : Int) != 1) = true := by simp; omega
    have q2 : (((t :: u :: r).length : Nat) != 1) = true := by simp
    rw [e]
    generalize (t :: u :: r).length = n at q q2
    clear hl
    go_enter Tryd.func7, Tryd.ntmps7
    go_wp2_with fail
    go_ret2
    exact ⟨rfl, Keep.refl _⟩
  | [t], hl =>
    rcases hl with h0 | ⟨b, off, rfl, hb, hcell⟩
    · cases h0
    · obtain ⟨c0, c1, c2, c3⟩ := hcell 0 t rfl
      rw [Nat.zero_mul, Nat.add_zero] at c0 c1
      clear hcell c2 c3
      show Calls Tryd.prog 7 #[.slice (some ⟨b, off, none⟩) 1 cap] w _
      rcases Bool.eq_false_or_eq_true (t.kind == 1) with d | d
      · have d' : (t.kind != 1) = false := by rw [bne, d]; rfl
        have e : regL [t] = regNo t.text := by show (if t.kind = 1 then regNo t.text else none) = _; rw [if_pos (beq_iff_eq.1 d)]
        have HE := Lib.hid e
        have C0 := Lib.hid c0
        have C1 := Lib.hid c1
        obtain ⟨R, hR⟩ : ∃ R, R = regV (regL [t]) := ⟨_, rfl⟩
        rw [← hR]
        have HR := Lib.hid (hR.trans (by rw [e]; rfl) : R = regV (regFrom t.text 16 0))
        clear e hR
        go_enter Tryd.func7, Tryd.ntmps7
        go_wp2_with fail
        clear c0 c1
        go_loopw [15] (fun i wr => ∃ k : Nat, k ≤ 16 ∧ i = .int .i64 (k : Int) ∧ R = regV (regFrom t.text (16 - k) k) ∧ Keep w wr) (fun i _ => 16 - (intOf i).toNat)
        case atStart => exact ⟨0, by omega, rfl, HR.out, Keep.refl _⟩
        case round =>
          obtain ⟨k, hk, rfl, hr, hk1⟩ := hrel
          have HK := Lib.hid hk1
          have HR2 := Lib.hid hr
          clear hk1 hr
          have k0 : (0 : Int) ≤ (k : Int) := Int.natCast_nonneg _
          by_cases h : k < 16
          · have hki : (k : Int) < 16 := by omega
            have D := Lib.hid (fun W => Tryd.strconv_Itoa_small k (by omega) W)
            have sz : (⟨(Lib.decDigits k).toArray⟩ : ByteArray).size ≤ 20 := by
              show (Lib.decDigits k).toArray.size ≤ 20
              rw [List.size_toArray, Lib.decDigits_length]; exact Lib.nDigits_le20 k (by omega)
            have cn := cName_dec k h
            have st := strEq t.text (cName k)
            rw [← cn] at st
            have step : regFrom t.text (16 - k) k = if t.text = cName k then some k else regFrom t.text (16 - (k + 1)) (k + 1) := by
              rw [show 16 - k = (16 - (k + 1)) + 1 by omega]; rfl
            have hs2 := HR2.out
            rw [step, ← cn] at hs2
            generalize (⟨(Lib.decDigits k).toArray⟩ : ByteArray) = X at D sz st hs2
            have HS := Lib.hid hs2
            clear hs2 step cn
            by_cases f : t.text = (⟨#[99]⟩ : ByteArray) ++ X
            · have hs3 := HS.out
              rw [if_pos f] at hs3
              have HF := Lib.hid hs3
              rw [decide_eq_true f] at st
              have HX := Lib.hid f
              clear hs3 f
              go_wp2_with fail
              refine region_grows (Keep wr) (by kernel_rfl) (by kernel_rfl) (Keep.refl _).drew ?_
              repeat (first
                | (apply text_pass (by rfl)
                   go_simp)
                | (apply text_step (by rfl)
                   · intro W hW
                     have c1 := (HK.out.trans hW).cellOf C1.out
                     go_simp
                     first
                      | exact ⟨rfl, hW⟩
                      | (rw [if_neg (by omega)]; exact ⟨rfl, hW⟩)
                      | (apply yes_enter; go_at_call 12; refine (D.out _).mono ?_; rintro e w' ⟨rfl, rfl⟩; exact ⟨rfl, hW⟩)
                   go_simp))
              apply text_end
              intro W5 hk5
              have K5 := Lib.hid (HK.out.trans hk5)
              clear hk5
              go_wp2_with fail
              go_ret2
              exact ⟨by rw [HF.out] <;> rfl, K5.out⟩
            · have hs3 := HS.out
              rw [if_neg f] at hs3
              have HF := Lib.hid hs3
              rw [decide_eq_false f] at st
              have HX := Lib.hid f
              clear hs3 f
              go_wp2_with fail
              refine region_grows (Keep wr) (by kernel_rfl) (by kernel_rfl) (Keep.refl _).drew ?_
              repeat (first
                | (apply text_pass (by rfl)
                   go_simp)
                | (apply text_step (by rfl)
                   · intro W hW
                     have c1 := (HK.out.trans hW).cellOf C1.out
                     go_simp
                     first
                      | exact ⟨rfl, hW⟩
                      | (rw [if_neg (by omega)]; exact ⟨rfl, hW⟩)
                      | (apply yes_enter; go_at_call 12; refine (D.out _).mono ?_; rintro e w' ⟨rfl, rfl⟩; exact ⟨rfl, hW⟩)
                   go_simp))
              apply text_end
              intro W5 hk5
              have K5 := Lib.hid (HK.out.trans hk5)
              clear hk5
              go_wp2_with fail
              go_roundw
              case rel => exact ⟨k + 1, by omega, by go_num, HF.out, K5.out⟩
              case measure => simp [intOf]; omega
          · obtain rfl : k = 16 := by omega
            go_wp2_with fail
            go_ret2
            exact ⟨by rw [HR2.out] <;> rfl, HK.out⟩
      · have d' : (t.kind != 1) = true := by rw [bne, d]; rfl
        have e : regL [t] = none := by show (if t.kind = 1 then regNo t.text else none) = _; rw [if_neg (beq_eq_false_iff_ne.1 d)]
        rw [e]
        go_enter Tryd.func7, Tryd.ntmps7
        go_wp2_with fail
        go_ret2
        exact ⟨rfl, Keep.refl _⟩

end Go.Proofs.YtcdepfdfemmfhaaDoor

/- The program's command: an op or a directive, and its operands. -/
namespace Go.Proofs.YtcdepfdfemmfhaaDoor
set_option linter.unusedVariables false
set_option linter.unusedSimpArgs false
open Go.RowKit
/-- What a line answers behind its words. -/
def LnR (r : Except (Nat × Int) PLn) (base : Nat) (e : Ending) (w' : World) : Prop := match r with
  | .error (p, x) => ∃ q, e = .returned (.tuple #[lineV noLine (.slice none 0 0), faultP q]) ∧ fltB w' q tokS p x
  | .ok y => ∃ v, e = .returned (.tuple #[lineV y v, .nilIface]) ∧ OutP w' base v y.args
theorem LnR.bad {r : Except (Nat × Int) PLn} {base p q : Nat} {x : Int} {w' : World} (h : r = .error (p, x)) (hb : fltB w' q tokS p x) : LnR r base (.returned (.tuple #[.agg #[.string ⟨#[]⟩, .string ⟨#[]⟩, .bool false, .slice none 0 0], faultP q])) w' := by unfold LnR; rw [h]; exact ⟨q, rfl, hb⟩
theorem LnR.ok {r : Except (Nat × Int) PLn} {base : Nat} {y : PLn} {v : Value} {w' : World} (h : r = .ok y) (hb : OutP w' base v y.args) : LnR r base (.returned (.tuple #[lineV y v, .nilIface])) w' := by unfold LnR; rw [h]; exact ⟨v, rfl, hb⟩
theorem rest_none {l : List Tok} {lb : ByteArray} {a : Nat} {t : Tok} (ht : l[a]? = some t) (h1 : t.kind ≠ 1) (h4 : t.kind ≠ 4) : restL l lb a = .error (a, 11) := by
  unfold restL; rw [ht]; dsimp only; rw [if_pos ⟨h1, h4⟩]
theorem rest_ops {l : List Tok} {lb : ByteArray} {a : Nat} {t : Tok} (ht : l[a]? = some t) (h14 : t.kind = 1 ∨ t.kind = 4) : (∀ p, opsP l (a + 1) = .error p → restL l lb a = .error (p, 11)) ∧ ∀ os, opsP l (a + 1) = .ok os → restL l lb a = .ok ⟨lb, t.text, decide (t.kind = 4), os⟩ := by
  have e : restL l lb a = if a + 1 = l.length then .ok ⟨lb, t.text, decide (t.kind = 4), []⟩ else match opsL (l.drop (a + 1)) (a + 1) [] [] 0 with
    | .error p => .error (p, 11)
    | .ok a => .ok ⟨lb, t.text, decide (t.kind = 4), a⟩ := by
    unfold restL; rw [ht]; dsimp only; rw [if_neg (by omega)]; rfl
  rw [e]
  unfold opsP
  by_cases h : a + 1 = l.length
  · rw [if_pos h, if_pos h]
    refine ⟨fun p h => ?_, fun os h => ?_⟩
    · cases h
    · cases h; rfl
  · rw [if_neg h, if_neg h]
    refine ⟨fun p h => ?_, fun os h => ?_⟩ <;> rw [h]
theorem Box.apart {w : World} {b c : Nat} {vs us : Array Value} (h : Box w b vs) (k : Box w c us) (hs : vs.size ≠ us.size) : b ≠ c := by
  rintro rfl
  obtain ⟨e, h⟩ := h
  obtain ⟨e', k⟩ := k
  rw [h] at k
  cases k
  exact hs rfl
theorem flt_past {W : World} {b P i : Nat} {s : ByteArray} {a n : Int} (hb : b ≠ P) (v : Value) (h : fltB W b s a n) : fltB (W.setCell ⟨P, i, none⟩ v) b s a n := Box.other h hb v
theorem cell_past {W : World} {P i b o : Nat} {v u : Value} (hb : b ≠ P) (h : W.cell? ⟨b, o, none⟩ = some u) : (W.setCell ⟨P, i, none⟩ v).cell? ⟨b, o, none⟩ = some u := by
  rw [← h]; exact World.cell?_setCell_other _ _ _ _ (by simp [hb])
set_option maxHeartbeats 2000000 in
set_option maxRecDepth 100000 in
theorem pcommand_any (label : ByteArray) (v : Value) (l : List Tok) (few : l.length ≤ 10000) (a : Nat) (ha : a < l.length) (w : World) (h : TokAt w v l) :
    Calls Tryd.prog 22 #[.string label, v, .int .i64 (a : Int)] w fun e w' => LnR (restL l label a) w.heap.size e w' ∧ Keep w w' := by
  have HT := Lib.hid h
  obtain ⟨t, ht⟩ : ∃ t, l[a]? = some t := ⟨_, List.getElem?_eq_getElem ha⟩
  obtain ⟨p, cap, rfl, hc, hl⟩ := h
  clear hl
  obtain ⟨b, off, rfl, hb, c0, c1, c2, c3⟩ := HT.out.at ht
  have C1 := Lib.hid c1
  have a0 : (0 : Int) ≤ (a : Int) := Int.natCast_nonneg _
  have ha' : (a : Int) < (l.length : Int) := by omega
  have B0 := Lib.hid (Box.new w #[.string ⟨#[]⟩, .string ⟨#[]⟩, .bool false, .slice none 0 0] 27)
  have K0 := Lib.hid ((Keep.refl w).alloc (.cells #[.string ⟨#[]⟩, .string ⟨#[]⟩, .bool false, .slice none 0 0] 27))
  have CO := Lib.hid (fun W (hk : Keep w W) => poperands_any _ l few (a + 1) ha W (HT.out.keep hk))
  have hbt : b < (w.alloc (.cells #[.string ⟨#[]⟩, .string ⟨#[]⟩, .bool false, .slice none 0 0] 27)).heap.size := Nat.lt_of_lt_of_le hb K0.out.size
  have d0 := K0.out.cellOf c0
  by_cases h14 : t.kind = 1 ∨ t.kind = 4
  · obtain ⟨hbad, hok⟩ := rest_ops (lb := label) ht h14
    have HB := Lib.hid hbad
    have HO := Lib.hid hok
    obtain ⟨dd, hdd⟩ : ∃ dd, dd = decide (t.kind = 4) := ⟨_, rfl⟩
    have HD := Lib.hid hdd
    clear hbad hok c0 c1 c2 c3 ht
    rcases h14 with k | k
    all_goals (
      have D : dd = (t.kind == 4) := by rw [HD.out]; rfl
      rw [k] at d0 D
      have HDD := Lib.hid D
      clear D
      go_enter Tryd.func22, Tryd.ntmps22
      go_wp2_with fail
      refine (CO.out _ K0.out).mono ?_
      rintro e w1 ⟨ho, hk1⟩
      unfold OpsPR at ho
      have B1 := Lib.hid (B0.out.keep hk1)
      have K1 := Lib.hid (K0.out.trans hk1)
      have lt1 := B1.out.lt
      have r1 := B1.out.cells
      have f1 := B1.out.thawed
      have C11 := Lib.hid (K1.out.cellOf C1.out)
      have hs : w.heap.size ≤ w.heap.size := Nat.le_refl _
      clear d0 hk1
      cases hop : opsP l (a + 1) with
      | error p =>
        rw [hop] at ho
        obtain ⟨q, rfl, hf⟩ := ho
        have HF := Lib.hid hf
        have HR := Lib.hid (HB.out p hop)
        clear hf hop
        unfold faultP
        go_wp2_with fail
        refine bodyPost_ret (v := .tuple #[.agg #[.string ⟨#[]⟩, .string ⟨#[]⟩, .bool false, .slice none 0 0], faultP q]) (by simp [results, Tryd.results22, go_sem, r1, faultP]; done) rfl ⟨LnR.bad HR.out ?_, ?_⟩
        · have np : q ≠ w.heap.size := Box.apart HF.out B1.out (by simp)
          repeat (with_reducible refine flt_past np _ ?_)
          exact HF.out
        · repeat (with_reducible refine Keep.setAt ?_ ?_ _; · omega)
          exact K1.out
      | ok os =>
        rw [hop] at ho
        obtain ⟨x, rfl, hx⟩ := ho
        have HX := Lib.hid hx
        have HR := Lib.hid (HO.out os hop)
        obtain ⟨px, cx, rfl⟩ := hx.slice
        have c11 := C11.out
        have ltb : b < w1.heap.size := Nat.lt_of_lt_of_le hb K1.out.size
        have HDR := HDD.out
        clear hx hop
        go_wp2_with fail
        refine bodyPost_ret (v := .tuple #[lineV ⟨label, t.text, dd, os⟩ (.slice px os.length cx), .nilIface]) (by simp [results, Tryd.results22, go_sem, r1, lineV, HDR]; done) rfl ⟨?_, ?_⟩
        · refine LnR.ok (y := ⟨label, t.text, dd, os⟩) (by rw [HR.out, HD.out]) ?_
          have hbase : w.heap.size < (w.alloc (.cells #[.string ⟨#[]⟩, .string ⟨#[]⟩, .bool false, .slice none 0 0] 27)).heap.size := by simp
          refine OutP.base (OutP.but (S := fun z => z = w.heap.size) HX.out ?_ (fun g hg e => by omega)) (by omega)
          repeat (with_reducible refine KeepBut.setAt ?_ ?_ _; · exact .inl rfl)
          exact KeepBut.refl _ _
        · repeat (with_reducible refine Keep.setAt ?_ ?_ _; · omega)
          exact K1.out)
  · have HR := Lib.hid (rest_none (lb := label) ht (fun e => h14 (.inl e)) (fun e => h14 (.inr e)))
    have k1 : (t.kind == 1) = false := beq_eq_false_iff_ne.2 (fun e => h14 (.inl e))
    have k4 : (t.kind == 4) = false := beq_eq_false_iff_ne.2 (fun e => h14 (.inr e))
    have CF := Lib.hid (fun W => ppfault_any a 11 W)
    clear c0 c1 c2 c3 ht h14
    go_enter Tryd.func22, Tryd.ntmps22
    go_wp2_with fail
    refine (CF.out _).mono ?_
    rintro e w1 ⟨q, rfl, hf, hk1⟩
    have HF := Lib.hid hf
    have B1 := Lib.hid (B0.out.keep hk1)
    have K1 := Lib.hid (K0.out.trans hk1)
    have r1 := B1.out.cells
    have f1 := B1.out.thawed
    have hs : w.heap.size ≤ w.heap.size := Nat.le_refl _
    clear hf hk1 d0
    unfold faultP
    go_wp2_with fail
    refine bodyPost_ret (v := .tuple #[.agg #[.string ⟨#[]⟩, .string ⟨#[]⟩, .bool false, .slice none 0 0], faultP q]) (by simp [results, Tryd.results22, go_sem, r1, faultP]; done) rfl ⟨LnR.bad HR.out ?_, ?_⟩
    · have np : q ≠ w.heap.size := Box.apart HF.out B1.out (by simp)
      repeat (with_reducible refine flt_past np _ ?_)
      exact HF.out
    · repeat (with_reducible refine Keep.setAt ?_ ?_ _; · omega)
      exact K1.out
end Go.Proofs.YtcdepfdfemmfhaaDoor

/- The program's Mem: what stands ahead of a register in brackets. -/
namespace Go.Proofs.YtcdepfdfemmfhaaDoor
set_option linter.unusedVariables false
set_option linter.unusedSimpArgs false
open Go.RowKit
theorem MemP.no {l : List Tok} {w' : World} (h : memL l = none) : MemP l (.returned (.tuple #[.slice none 0 0, .int .i64 0, .bool false])) w' := by unfold MemP; rw [h]; exact ⟨_, rfl, TokAt.nil _⟩
theorem MemP.yes {l m : List Tok} {r : Nat} {w' : World} {v : Value} (h : memL l = some (m, r)) (hv : TokAt w' v m) : MemP l (.returned (.tuple #[v, .int .i64 r, .bool true])) w' := by unfold MemP; rw [h]; exact ⟨v, rfl, hv⟩
theorem isSg_at {l : List Tok} {i : Nat} {t : Tok} (h : l[i]? = some t) (s : ByteArray) : isSg l i s = tokIs t s := by unfold isSg; rw [h]
set_option maxHeartbeats 2000000 in
set_option maxRecDepth 100000 in
theorem pmem_any (v : Value) (l : List Tok) (w : World) (few : l.length ≤ 10000) (h : TokAt w v l) :
    Calls Tryd.prog 8 #[v] w fun e w' => MemP l e w' ∧ Keep w w' := by
  have HT := Lib.hid h
  obtain ⟨p, cap, rfl, hc, hl⟩ := h
  clear hl
  by_cases n3 : l.length < 3
  · have E : memL l = none := by unfold memL; rw [if_neg (by omega)]
    have HE := Lib.hid E
    have n3' : (l.length : Int) - 3 < 0 := by omega
    have n3b : decide ((l.length : Int) - 3 < 0) = true := decide_eq_true n3'
    clear E
    go_enter Tryd.func8, Tryd.ntmps8
    go_wp2_with fail
    go_ret3
    exact ⟨MemP.no HE.out, Keep.refl _⟩
  · obtain ⟨t, ht⟩ : ∃ t, l[l.length - 3]? = some t := ⟨_, List.getElem?_eq_getElem (by omega)⟩
    obtain ⟨u, hu⟩ : ∃ u, l[l.length - 1]? = some u := ⟨_, List.getElem?_eq_getElem (by omega)⟩
    obtain ⟨b, off, rfl, hb, c0, c1, c2, c3⟩ := HT.out.at ht
    obtain ⟨b', off', e', _, d0, d1, d2, d3⟩ := HT.out.at hu
    cases e'
    have n3' : ¬ (l.length : Int) - 3 < 0 := by omega
    have n3b : decide ((l.length : Int) - 3 < 0) = false := decide_eq_false n3'
    have e1 : ((l.length : Int) - 3).toNat = l.length - 3 := by omega
    have e2 : ((l.length : Int) - 3 + 2).toNat = l.length - 1 := by omega
    have e3 : (0 : Int) ≤ (l.length : Int) - 3 := by omega
    have e4 : (l.length : Int) - 3 < (l.length : Int) := by omega
    have e5 : (0 : Int) ≤ (l.length : Int) - 3 + 2 := by omega
    have e6 : (l.length : Int) - 3 + 2 < (l.length : Int) := by omega
    have CT := Lib.hid (fun W => psgt_any t W)
    have CU := Lib.hid (fun W => psgt_any u W)
    unfold tokAgg at CT CU
    have E : memL l = if isSg l (l.length - 1) sRight = true ∧ isSg l (l.length - 3) sLeft = true then (match regL ((l.drop (l.length - 2)).take 1) with
              | none => none
              | some r => some (l.take (l.length - 3), r)) else none := by
      unfold memL
      by_cases h : isSg l (l.length - 1) sRight = true ∧ isSg l (l.length - 3) sLeft = true
      · rw [if_pos ⟨by omega, h⟩, if_pos h]; cases regL ((l.drop (l.length - 2)).take 1) <;> rfl
      · rw [if_neg (fun x => h x.2), if_neg h]
    rw [isSg_at hu, isSg_at ht] at E
    have HE := Lib.hid E
    clear E ht hu
    rcases Bool.eq_false_or_eq_true (tokIs t sLeft) with dt | dt
    · rw [sgT_is dt] at CT
      unfold sLeft at CT
      rcases Bool.eq_false_or_eq_true (tokIs u sRight) with du | du
      · rw [sgT_is du] at CU
        unfold sRight at CU
        have E := HE.out
        rw [if_pos ⟨du, dt⟩] at E
        have HE2 := Lib.hid E
        have f1 : ((l.length : Int) - 3 + 1).toNat = l.length - 2 := by omega
        have f4 : (0 : Int) ≤ (l.length : Int) - 3 + 1 := by omega
        have f5 : (l.length : Int) - 3 + 1 ≤ (l.length : Int) - 3 + 2 := by omega
        have f6 : (l.length : Int) - 3 + 2 ≤ (cap : Int) := by omega
        have f8 : (l.length : Int) - 3 ≤ (cap : Int) := by omega
        have f9 : l.length - 1 - (l.length - 2) = 1 := by omega
        clear E HE dt du
        go_enter Tryd.func8, Tryd.ntmps8
        go_wp2_with fail
        refine (CT.out _).mono ?_
        rintro e w1 ⟨rfl, hk1⟩
        have d0' := hk1.cellOf d0
        have d1' := hk1.cellOf d1
        have d2' := hk1.cellOf d2
        have d3' := hk1.cellOf d3
        have K1 := Lib.hid hk1
        clear hk1 c0 c1 c2 c3 d0 d1 d2 d3
        go_wp2_with fail
        refine (CU.out _).mono ?_
        rintro e w2 ⟨rfl, hk2⟩
        have K2 := Lib.hid (K1.out.trans hk2)
        have hp1 := HT.out.part (l.length - 2) 1 (by omega) (some ⟨b, off + (l.length - 2) * 4, none⟩) (cap - (l.length - 2)) (fun _ => ⟨b, off, rfl, rfl⟩) (by omega)
        have CR := Lib.hid (fun W (hk : Keep w W) => preg14_any _ _ W (by simp; omega) (hp1.keep hk))
        have CP := Lib.hid (fun W (hk : Keep w W) => pfresh_any _ (l.take (l.length - 3)) (by simp; omega) W ((by simpa using HT.out.part 0 (l.length - 3) (by omega) (some ⟨b, off, none⟩) cap (fun _ => ⟨b, off, rfl, by simp⟩) (by omega) : TokAt w (.slice (some ⟨b, off, none⟩) (l.length - 3) cap) (l.take (l.length - 3))).keep hk))
        clear hk2 hp1 d0' d1' d2' d3'
        go_wp2_with fail
        refine (CR.out _ K2.out).mono ?_
        rintro e w3 ⟨rfl, hk3⟩
        have K3 := Lib.hid (K2.out.trans hk3)
        clear hk3
        cases hr : regL ((l.drop (l.length - 2)).take 1) with
        | none =>
          have E := HE2.out
          rw [hr] at E
          have HN : Hid (memL l = none) := Lib.hid E
          unfold regV
          clear E hr
          go_wp2_with fail
          go_ret3
          exact ⟨MemP.no HN.out, K3.out⟩
        | some r =>
          have E := HE2.out
          rw [hr] at E
          have HN : Hid (memL l = some (l.take (l.length - 3), r)) := Lib.hid E
          unfold regV
          clear E hr
          go_wp2_with fail
          refine (CP.out _ K3.out).mono ?_
          rintro e w4 ⟨x, rfl, hx, hk4⟩
          have K4 := Lib.hid (K3.out.trans hk4)
          have HX := Lib.hid (own_toks hx)
          clear hk4 hx
          go_wp2_with fail
          go_ret3
          exact ⟨MemP.yes HN.out HX.out, K4.out⟩
      · have n2 := strEq (sgT u) sRight
        rw [decide_eq_false (sgT_not sR_ne du), show sRight.toList = [41] by decide +kernel] at n2
        have HE2 : Hid (memL l = none) := Lib.hid (by rw [HE.out, if_neg (fun h => by rw [du] at h; cases h.1)])
        generalize sgT u = S at CU n2
        have n4 : (S.toList != [41]) = true := by rw [bne, n2]; rfl
        clear HE dt du
        go_enter Tryd.func8, Tryd.ntmps8
        go_wp2_with fail
        refine (CT.out _).mono ?_
        rintro e w1 ⟨rfl, hk1⟩
        have d0' := hk1.cellOf d0
        have d1' := hk1.cellOf d1
        have d2' := hk1.cellOf d2
        have d3' := hk1.cellOf d3
        have K1 := Lib.hid hk1
        clear hk1 c0 c1 c2 c3 d0 d1 d2 d3
        go_wp2_with fail
        refine (CU.out _).mono ?_
        rintro e w2 ⟨rfl, hk2⟩
        have K2 := Lib.hid (K1.out.trans hk2)
        clear hk2 d0' d1' d2' d3'
        go_wp2_with fail
        go_ret3
        exact ⟨MemP.no HE2.out, K2.out⟩
    · have n2 := strEq (sgT t) sLeft
      rw [decide_eq_false (sgT_not sL_ne dt), show sLeft.toList = [40] by decide +kernel] at n2
      have HE2 : Hid (memL l = none) := Lib.hid (by rw [HE.out, if_neg (fun h => by rw [dt] at h; cases h.2)])
      generalize sgT t = S at CT n2
      have n4 : (S.toList != [40]) = true := by rw [bne, n2]; rfl
      clear HE dt
      go_enter Tryd.func8, Tryd.ntmps8
      go_wp2_with fail
      refine (CT.out _).mono ?_
      rintro e w1 ⟨rfl, hk1⟩
      have K1 := Lib.hid hk1
      clear hk1
      go_wp2_with fail
      go_ret3
      exact ⟨MemP.no HE2.out, K1.out⟩
theorem pMem : PMem := pmem_any
end Go.Proofs.YtcdepfdfemmfhaaDoor

/- The program's isLabel, parts: a line of words. -/
namespace Go.Proofs.YtcdepfdfemmfhaaDoor
set_option linter.unusedVariables false
set_option linter.unusedSimpArgs false
open Go.RowKit
def isLblB (l : List Tok) : Bool := match l with
  | t :: u :: _ => decide (t.kind = 1) && tokIs u sColon
  | _ => false
theorem lineL_rest {l : List Tok} (h : isLblB l = false) : lineL l = restL l noB 0 := by
  match l, h with
  | [], _ => rfl
  | [t], _ => rfl
  | t :: u :: r, h =>
    show (if t.kind = 1 ∧ tokIs u sColon = true then _ else restL (t :: u :: r) noB 0) = _
    rw [if_neg]
    intro ⟨h1, h2⟩
    have h' : (decide (t.kind = 1) && tokIs u sColon) = false := h
    rw [h2, decide_eq_true h1] at h'
    cases h'
theorem lineL_lab {l : List Tok} (h : isLblB l = true) : ∃ t, l[0]? = some t ∧ 2 ≤ l.length ∧ lineL l = if (regL [t]).isSome = true then .error (0, 12) else restL l t.text 2 := by
  match l, h with
  | t :: u :: r, h =>
    refine ⟨t, rfl, by simp, ?_⟩
    show (if t.kind = 1 ∧ tokIs u sColon = true then (if (regL [t]).isSome = true then _ else restL (t :: u :: r) t.text 2) else _) = _
    have h' : (decide (t.kind = 1) && tokIs u sColon) = true := h
    rw [Bool.and_eq_true] at h'
    rw [if_pos ⟨of_decide_eq_true h'.1, h'.2⟩]
set_option maxHeartbeats 1000000 in
set_option maxRecDepth 100000 in
theorem pislabel_any (v : Value) (l : List Tok) (few : l.length ≤ 10000) (w : World) (h : TokAt w v l) :
    Calls Tryd.prog 20 #[v] w fun e w' => e = .returned (.bool (isLblB l)) ∧ Keep w w' := by
  have HT := Lib.hid h
  obtain ⟨p, cap, rfl, hc, hl⟩ := h
  clear hl
  by_cases n2 : l.length < 2
  · have E : isLblB l = false := by
      match l, n2 with
      | [], _ => rfl
      | [t], _ => rfl
      | t :: u :: r, h => simp at h; omega
    rw [E]
    have n2' : ¬ (1 : Int) < (l.length : Int) := by omega
    have n2b : decide ((1 : Int) < (l.length : Int)) = false := decide_eq_false n2'
    clear E
    go_enter Tryd.func20, Tryd.ntmps20
    go_wp2_with fail
    go_ret
    exact ⟨rfl, Keep.refl _⟩
  · obtain ⟨t, ht⟩ : ∃ t, l[0]? = some t := ⟨_, List.getElem?_eq_getElem (by omega)⟩
    obtain ⟨u, hu⟩ : ∃ u, l[1]? = some u := ⟨_, List.getElem?_eq_getElem (by omega)⟩
    obtain ⟨b, off, rfl, hb, c0, c1, c2, c3⟩ := HT.out.at ht
    obtain ⟨b', off', e', _, d0, d1, d2, d3⟩ := HT.out.at hu
    cases e'
    rw [Nat.zero_mul, Nat.add_zero] at c0 c1 c2 c3
    rw [Nat.one_mul] at d0 d1 d2 d3
    have E : isLblB l = ((t.kind == 1) && tokIs u sColon) := by
      match l, ht, hu with
      | x :: y :: r, ht, hu =>
        simp at ht hu
        subst ht hu
        rfl
    rw [E]
    have n2' : (1 : Int) < (l.length : Int) := by omega
    have n2b : decide ((1 : Int) < (l.length : Int)) = true := decide_eq_true n2'
    have n0' : (0 : Int) < (l.length : Int) := by omega
    have CU := Lib.hid (fun W => psgt_any u W)
    unfold tokAgg at CU
    clear E ht hu
    rcases Bool.eq_false_or_eq_true (t.kind == 1) with k | k
    · rw [k]
      rcases Bool.eq_false_or_eq_true (tokIs u sColon) with du | du
      · rw [sgT_is du] at CU
        unfold sColon at CU
        rw [du]
        clear du
        go_enter Tryd.func20, Tryd.ntmps20
        go_wp2_with ((with_reducible refine (CU.out _).mono ?_); rintro e w1 ⟨rfl, hk1⟩)
        go_ret
        exact ⟨rfl, hk1⟩
      · have m2 := strEq (sgT u) sColon
        rw [decide_eq_false (sgT_not sCol_ne du), show sColon.toList = [58] by decide +kernel] at m2
        rw [du]
        generalize sgT u = S at CU m2
        clear du
        go_enter Tryd.func20, Tryd.ntmps20
        go_wp2_with ((with_reducible refine (CU.out _).mono ?_); rintro e w1 ⟨rfl, hk1⟩)
        go_ret
        exact ⟨rfl, hk1⟩
    · rw [k]
      go_enter Tryd.func20, Tryd.ntmps20
      go_wp2_with fail
      go_ret
      exact ⟨rfl, Keep.refl _⟩
theorem part_one {w : World} {b off cap : Nat} {l : List Tok} {t : Tok} (h : TokAt w (.slice (some ⟨b, off, none⟩) l.length cap) l) (ht : l[0]? = some t) (hc : 1 ≤ cap) : TokAt w (.slice (some ⟨b, off, none⟩) 1 cap) [t] := by
  have hl := (List.getElem?_eq_some_iff.1 ht).1
  have := h.part 0 1 (by omega) (some ⟨b, off, none⟩) cap (fun _ => ⟨b, off, rfl, by simp⟩) hc
  match l, ht with
  | x :: r, ht =>
    simp at ht
    subst ht
    simpa using this
theorem rest_end {l : List Tok} {lb : ByteArray} {a : Nat} (h : l.length ≤ a) : restL l lb a = .ok ⟨lb, noB, false, []⟩ := by
  unfold restL; rw [List.getElem?_eq_none h]
set_option maxHeartbeats 4000000 in
set_option maxRecDepth 100000 in
theorem pparts_reg (v : Value) (l : List Tok) (few : l.length ≤ 10000) (w : World) (h : TokAt w v l) (d : isLblB l = true) (hreg : ∀ t, l[0]? = some t → (regL [t]).isSome = true) :
    Calls Tryd.prog 11 #[v] w fun e w' => LnR (lineL l) w.heap.size e w' ∧ Keep w w' := by
  have HT := Lib.hid h
  obtain ⟨p, cap, rfl, hc, hl⟩ := h
  clear hl
  have B0 := Lib.hid (Box.new w #[.string ⟨#[]⟩, .string ⟨#[]⟩, .bool false, .slice none 0 0] 27)
  have K0 := Lib.hid ((Keep.refl w).alloc (.cells #[.string ⟨#[]⟩, .string ⟨#[]⟩, .bool false, .slice none 0 0] 27))
  have CL := Lib.hid (fun W (hk : Keep w W) => pislabel_any _ l few W (HT.out.keep hk))
  have CC := Lib.hid (fun lb a (ha : a < l.length) W (hk : Keep w W) => pcommand_any lb _ l few a ha W (HT.out.keep hk))
  have hs : w.heap.size ≤ w.heap.size := Nat.le_refl _
  obtain ⟨t, ht, h2, hL⟩ := lineL_lab d
  have HL := Lib.hid hL
  rw [d] at CL
  clear hL
  obtain ⟨b, off, rfl, hb, c0, c1, c2, c3⟩ := HT.out.at ht
  rw [Nat.zero_mul, Nat.add_zero] at c0 c1
  have C1 := Lib.hid c1
  have CR := Lib.hid (fun W (hk : Keep w W) => preg14_any _ [t] W (by simp) ((part_one HT.out ht (by omega)).keep hk))
  have CF := Lib.hid (fun W => ppfault_any 0 12 W)
  have q1 : (1 : Int) ≤ (cap : Int) := by omega
  have n0 : (0 : Int) < (l.length : Int) := by omega
  have n0b : decide ((0 : Int) < (l.length : Int)) = true := decide_eq_true n0
  have hrg := Lib.hid (hreg t ht)
  clear c0 c1 c2 c3 ht d hreg
  go_enter Tryd.func11, Tryd.ntmps11
  go_wp2_with fail
  refine (CL.out _ K0.out).mono ?_
  rintro e w1 ⟨rfl, hk1⟩
  have K1 := Lib.hid (K0.out.trans hk1)
  have B1 := Lib.hid (B0.out.keep hk1)
  clear hk1
  go_wp2_with fail
  refine (CR.out _ K1.out).mono ?_
  rintro e w2 ⟨rfl, hk2⟩
  have K2 := Lib.hid (K1.out.trans hk2)
  have BP := Lib.hid (B1.out.keep hk2)
  have C12 := K2.out.cellOf C1.out
  clear hk2
  obtain ⟨r, hr⟩ := Option.isSome_iff_exists.1 hrg.out
  have HE : Hid (lineL l = .error (0, 12)) := Lib.hid (by rw [HL.out, hr]; rfl)
  rw [hr]
  unfold regV
  clear hr
  go_wp2_with fail
  refine (CF.out _).mono ?_
  rintro e w3 ⟨q, rfl, hf, hk3⟩
  have K3 := Lib.hid (K2.out.trans hk3)
  have B3 := Lib.hid (BP.out.keep hk3)
  have HF := Lib.hid hf
  have r3 := B3.out.cells
  have f3 := B3.out.thawed
  clear hk3 hf
  unfold faultP
  go_wp2_with fail
  refine bodyPost_ret (v := .tuple #[.agg #[.string ⟨#[]⟩, .string ⟨#[]⟩, .bool false, .slice none 0 0], faultP q]) (by simp [results, Tryd.results11, go_sem, r3, faultP]; done) rfl ⟨LnR.bad HE.out ?_, ?_⟩
  · have np : q ≠ w.heap.size := Box.apart HF.out B3.out (by simp)
    repeat (with_reducible refine flt_past np _ ?_)
    exact HF.out
  · repeat (with_reducible refine Keep.setAt ?_ ?_ _; · omega)
    exact K3.out
set_option maxHeartbeats 4000000 in
set_option maxRecDepth 100000 in
theorem pparts_end (v : Value) (l : List Tok) (few : l.length ≤ 10000) (w : World) (h : TokAt w v l) (d : isLblB l = true) (hreg : ∀ t, l[0]? = some t → (regL [t]).isSome = false) (h3 : l.length = 2) :
    Calls Tryd.prog 11 #[v] w fun e w' => LnR (lineL l) w.heap.size e w' ∧ Keep w w' := by
  have HT := Lib.hid h
  obtain ⟨p, cap, rfl, hc, hl⟩ := h
  clear hl
  have B0 := Lib.hid (Box.new w #[.string ⟨#[]⟩, .string ⟨#[]⟩, .bool false, .slice none 0 0] 27)
  have K0 := Lib.hid ((Keep.refl w).alloc (.cells #[.string ⟨#[]⟩, .string ⟨#[]⟩, .bool false, .slice none 0 0] 27))
  have CL := Lib.hid (fun W (hk : Keep w W) => pislabel_any _ l few W (HT.out.keep hk))
  have CC := Lib.hid (fun lb a (ha : a < l.length) W (hk : Keep w W) => pcommand_any lb _ l few a ha W (HT.out.keep hk))
  have hs : w.heap.size ≤ w.heap.size := Nat.le_refl _
  obtain ⟨t, ht, h2, hL⟩ := lineL_lab d
  have HL := Lib.hid hL
  rw [d] at CL
  clear hL
  obtain ⟨b, off, rfl, hb, c0, c1, c2, c3⟩ := HT.out.at ht
  rw [Nat.zero_mul, Nat.add_zero] at c0 c1
  have C1 := Lib.hid c1
  have CR := Lib.hid (fun W (hk : Keep w W) => preg14_any _ [t] W (by simp) ((part_one HT.out ht (by omega)).keep hk))
  have CF := Lib.hid (fun W => ppfault_any 0 12 W)
  have q1 : (1 : Int) ≤ (cap : Int) := by omega
  have n0 : (0 : Int) < (l.length : Int) := by omega
  have n0b : decide ((0 : Int) < (l.length : Int)) = true := decide_eq_true n0
  have hrg := Lib.hid (hreg t ht)
  have h3b : ((2 : Int) == (l.length : Int)) = true := by simp; omega
  have HE3 : Hid (restL l t.text 2 = .ok ⟨t.text, noB, false, []⟩) := Lib.hid (rest_end (by omega))
  clear h3
  clear c0 c1 c2 c3 ht d hreg
  go_enter Tryd.func11, Tryd.ntmps11
  go_wp2_with fail
  refine (CL.out _ K0.out).mono ?_
  rintro e w1 ⟨rfl, hk1⟩
  have K1 := Lib.hid (K0.out.trans hk1)
  have B1 := Lib.hid (B0.out.keep hk1)
  clear hk1
  go_wp2_with fail
  refine (CR.out _ K1.out).mono ?_
  rintro e w2 ⟨rfl, hk2⟩
  have K2 := Lib.hid (K1.out.trans hk2)
  have BP := Lib.hid (B1.out.keep hk2)
  have C12 := K2.out.cellOf C1.out
  clear hk2
  have hr := Option.isSome_eq_false_iff.1 hrg.out
  have hr := Option.isNone_iff_eq_none.1 hr
  have HE : Hid (lineL l = restL l t.text 2) := Lib.hid (by rw [HL.out, hr]; rfl)
  rw [hr]
  unfold regV
  clear hr
  have lt2 : b < w2.heap.size := Nat.lt_of_lt_of_le hb K2.out.size
  have HE2 : Hid (lineL l = .ok ⟨t.text, noB, false, []⟩) := Lib.hid (HE.out.trans HE3.out)
  have r3 := BP.out.cells
  have f3 := BP.out.thawed
  go_wp2_with fail
  refine bodyPost_ret (v := .tuple #[lineV ⟨t.text, noB, false, []⟩ (.slice none 0 0), .nilIface]) (by simp [results, Tryd.results11, go_sem, r3, lineV, noB]; done) rfl ⟨LnR.ok (y := ⟨t.text, noB, false, []⟩) HE2.out (OutP.nil _ _), ?_⟩
  repeat (with_reducible refine Keep.setAt ?_ ?_ _; · omega)
  exact K2.out
set_option maxHeartbeats 4000000 in
set_option maxRecDepth 100000 in
theorem pparts_cmd (v : Value) (l : List Tok) (few : l.length ≤ 10000) (w : World) (h : TokAt w v l) (d : isLblB l = true) (hreg : ∀ t, l[0]? = some t → (regL [t]).isSome = false) (h3 : ¬ l.length = 2) :
    Calls Tryd.prog 11 #[v] w fun e w' => LnR (lineL l) w.heap.size e w' ∧ Keep w w' := by
  have HT := Lib.hid h
  obtain ⟨p, cap, rfl, hc, hl⟩ := h
  clear hl
  have B0 := Lib.hid (Box.new w #[.string ⟨#[]⟩, .string ⟨#[]⟩, .bool false, .slice none 0 0] 27)
  have K0 := Lib.hid ((Keep.refl w).alloc (.cells #[.string ⟨#[]⟩, .string ⟨#[]⟩, .bool false, .slice none 0 0] 27))
  have CL := Lib.hid (fun W (hk : Keep w W) => pislabel_any _ l few W (HT.out.keep hk))
  have CC := Lib.hid (fun lb a (ha : a < l.length) W (hk : Keep w W) => pcommand_any lb _ l few a ha W (HT.out.keep hk))
  have hs : w.heap.size ≤ w.heap.size := Nat.le_refl _
  obtain ⟨t, ht, h2, hL⟩ := lineL_lab d
  have HL := Lib.hid hL
  rw [d] at CL
  clear hL
  obtain ⟨b, off, rfl, hb, c0, c1, c2, c3⟩ := HT.out.at ht
  rw [Nat.zero_mul, Nat.add_zero] at c0 c1
  have C1 := Lib.hid c1
  have CR := Lib.hid (fun W (hk : Keep w W) => preg14_any _ [t] W (by simp) ((part_one HT.out ht (by omega)).keep hk))
  have CF := Lib.hid (fun W => ppfault_any 0 12 W)
  have q1 : (1 : Int) ≤ (cap : Int) := by omega
  have n0 : (0 : Int) < (l.length : Int) := by omega
  have n0b : decide ((0 : Int) < (l.length : Int)) = true := decide_eq_true n0
  have hrg := Lib.hid (hreg t ht)
  clear c0 c1 c2 c3 ht d hreg
  go_enter Tryd.func11, Tryd.ntmps11
  go_wp2_with fail
  refine (CL.out _ K0.out).mono ?_
  rintro e w1 ⟨rfl, hk1⟩
  have K1 := Lib.hid (K0.out.trans hk1)
  have B1 := Lib.hid (B0.out.keep hk1)
  clear hk1
  go_wp2_with fail
  refine (CR.out _ K1.out).mono ?_
  rintro e w2 ⟨rfl, hk2⟩
  have K2 := Lib.hid (K1.out.trans hk2)
  have BP := Lib.hid (B1.out.keep hk2)
  have C12 := K2.out.cellOf C1.out
  clear hk2
  have hr := Option.isSome_eq_false_iff.1 hrg.out
  have hr := Option.isNone_iff_eq_none.1 hr
  have HE : Hid (lineL l = restL l t.text 2) := Lib.hid (by rw [HL.out, hr]; rfl)
  rw [hr]
  unfold regV
  clear hr
  have lt2 : b < w2.heap.size := Nat.lt_of_lt_of_le hb K2.out.size
  have h3b : ((2 : Int) == (l.length : Int)) = false := by simp; omega
  have CC2 := Lib.hid (CC.out t.text 2 (by omega) _ K2.out)
  have SZ : Hid (w.heap.size < w2.heap.size) := Lib.hid BP.out.lt
  go_wp2_with fail
  refine CC2.out.mono ?_
  rintro e w3 ⟨hln, hk3⟩
  have K3 := Lib.hid (K2.out.trans hk3)
  have B3 := Lib.hid (BP.out.keep hk3)
  have r3 := B3.out.cells
  have f3 := B3.out.thawed
  have szb := SZ.out
  clear hk3
  unfold LnR at hln
  cases hz : restL l t.text 2 with
  | error px =>
    obtain ⟨p, x⟩ := px
    rw [hz] at hln
    obtain ⟨q, rfl, hf⟩ := hln
    have HF := Lib.hid hf
    have HE3 := Lib.hid (HE.out.trans hz)
    clear hf hz
    unfold faultP lineV noLine
    dsimp only
    go_wp2_with fail
    refine bodyPost_ret (v := .tuple #[.agg #[.string ⟨#[]⟩, .string ⟨#[]⟩, .bool false, .slice none 0 0], faultP q]) (by simp [results, Tryd.results11, go_sem, r3, faultP]; done) rfl ⟨LnR.bad HE3.out ?_, ?_⟩
    · have np : q ≠ w.heap.size := Box.apart HF.out B3.out (by simp)
      repeat (with_reducible refine flt_past np _ ?_)
      exact HF.out
    · repeat (with_reducible refine Keep.setAt ?_ ?_ _; · omega)
      exact K3.out
  | ok y =>
    rw [hz] at hln
    obtain ⟨x, rfl, hx⟩ := hln
    obtain ⟨px, cx, rfl⟩ := hx.slice
    have HX := Lib.hid hx
    have HE3 := Lib.hid (HE.out.trans hz)
    clear hx hz
    unfold lineV
    go_wp2_with fail
    refine bodyPost_ret (v := .tuple #[lineV y (.slice px y.args.length cx), .nilIface]) (by simp [results, Tryd.results11, go_sem, r3, lineV]; done) rfl ⟨LnR.ok HE3.out ?_, ?_⟩
    · refine OutP.base (OutP.but (S := fun z => z = w.heap.size) HX.out ?_ (fun g hg e => by omega)) (by omega)
      repeat (with_reducible refine KeepBut.setAt ?_ ?_ _; · exact .inl rfl)
      exact KeepBut.refl _ _
    · repeat (with_reducible refine Keep.setAt ?_ ?_ _; · omega)
      exact K3.out
set_option maxHeartbeats 4000000 in
set_option maxRecDepth 100000 in
theorem pparts_none (v : Value) (l : List Tok) (few : l.length ≤ 10000) (w : World) (h : TokAt w v l) (d : isLblB l = false) (h0 : l.length = 0) :
    Calls Tryd.prog 11 #[v] w fun e w' => LnR (lineL l) w.heap.size e w' ∧ Keep w w' := by
  have HT := Lib.hid h
  obtain ⟨p, cap, rfl, hc, hl⟩ := h
  clear hl
  have B0 := Lib.hid (Box.new w #[.string ⟨#[]⟩, .string ⟨#[]⟩, .bool false, .slice none 0 0] 27)
  have K0 := Lib.hid ((Keep.refl w).alloc (.cells #[.string ⟨#[]⟩, .string ⟨#[]⟩, .bool false, .slice none 0 0] 27))
  have CL := Lib.hid (fun W (hk : Keep w W) => pislabel_any _ l few W (HT.out.keep hk))
  have CC := Lib.hid (fun lb a (ha : a < l.length) W (hk : Keep w W) => pcommand_any lb _ l few a ha W (HT.out.keep hk))
  have hs : w.heap.size ≤ w.heap.size := Nat.le_refl _
  have hL := lineL_rest d
  have HL := Lib.hid hL
  rw [d] at CL
  clear hL
  have n0 : ¬ (0 : Int) < (l.length : Int) := by omega
  have n0b : decide ((0 : Int) < (l.length : Int)) = false := decide_eq_false n0
  have HE2 : Hid (lineL l = .ok ⟨noB, noB, false, []⟩) := Lib.hid (HL.out.trans (rest_end (by omega)))
  have n0c : decide (0 < l.length) = false := decide_eq_false (by omega)
  clear h0 n0
  go_enter Tryd.func11, Tryd.ntmps11
  go_wp2_with fail
  refine (CL.out _ K0.out).mono ?_
  rintro e w1 ⟨rfl, hk1⟩
  have K1 := Lib.hid (K0.out.trans hk1)
  have B1 := Lib.hid (B0.out.keep hk1)
  have r3 := B1.out.cells
  have f3 := B1.out.thawed
  clear hk1
  go_wp2_with fail
  refine bodyPost_ret (v := .tuple #[lineV ⟨noB, noB, false, []⟩ (.slice none 0 0), .nilIface]) (by simp [results, Tryd.results11, go_sem, r3, lineV, noB]; done) rfl ⟨LnR.ok (y := ⟨noB, noB, false, []⟩) HE2.out (OutP.nil _ _), ?_⟩
  repeat (with_reducible refine Keep.setAt ?_ ?_ _; · omega)
  exact K1.out
set_option maxHeartbeats 4000000 in
set_option maxRecDepth 100000 in
theorem pparts_op (v : Value) (l : List Tok) (few : l.length ≤ 10000) (w : World) (h : TokAt w v l) (d : isLblB l = false) (h0 : ¬ l.length = 0) :
    Calls Tryd.prog 11 #[v] w fun e w' => LnR (lineL l) w.heap.size e w' ∧ Keep w w' := by
  have HT := Lib.hid h
  obtain ⟨p, cap, rfl, hc, hl⟩ := h
  clear hl
  have B0 := Lib.hid (Box.new w #[.string ⟨#[]⟩, .string ⟨#[]⟩, .bool false, .slice none 0 0] 27)
  have K0 := Lib.hid ((Keep.refl w).alloc (.cells #[.string ⟨#[]⟩, .string ⟨#[]⟩, .bool false, .slice none 0 0] 27))
  have CL := Lib.hid (fun W (hk : Keep w W) => pislabel_any _ l few W (HT.out.keep hk))
  have CC := Lib.hid (fun lb a (ha : a < l.length) W (hk : Keep w W) => pcommand_any lb _ l few a ha W (HT.out.keep hk))
  have hs : w.heap.size ≤ w.heap.size := Nat.le_refl _
  have hL := lineL_rest d
  have HL := Lib.hid hL
  rw [d] at CL
  clear hL
  have n0 : (0 : Int) < (l.length : Int) := by omega
  have n0b : decide ((0 : Int) < (l.length : Int)) = true := decide_eq_true n0
  go_enter Tryd.func11, Tryd.ntmps11
  go_wp2_with fail
  refine (CL.out _ K0.out).mono ?_
  rintro e w1 ⟨rfl, hk1⟩
  have K1 := Lib.hid (K0.out.trans hk1)
  have BP := Lib.hid (B0.out.keep hk1)
  clear hk1
  have CC2 := Lib.hid (CC.out noB 0 (by omega) _ K1.out)
  have SZ : Hid (w.heap.size < w1.heap.size) := Lib.hid BP.out.lt
  go_wp2_with fail
  refine CC2.out.mono ?_
  rintro e w3 ⟨hln, hk3⟩
  have K3 := Lib.hid (K1.out.trans hk3)
  have B3 := Lib.hid (BP.out.keep hk3)
  have r3 := B3.out.cells
  have f3 := B3.out.thawed
  have szb := SZ.out
  clear hk3
  unfold LnR at hln
  cases hz : restL l noB 0 with
  | error px =>
    obtain ⟨p, x⟩ := px
    rw [hz] at hln
    obtain ⟨q, rfl, hf⟩ := hln
    have HF := Lib.hid hf
    have HE3 := Lib.hid (HL.out.trans hz)
    clear hf hz
    unfold faultP lineV noLine
    dsimp only
    go_wp2_with fail
    refine bodyPost_ret (v := .tuple #[.agg #[.string ⟨#[]⟩, .string ⟨#[]⟩, .bool false, .slice none 0 0], faultP q]) (by simp [results, Tryd.results11, go_sem, r3, faultP]; done) rfl ⟨LnR.bad HE3.out ?_, ?_⟩
    · have np : q ≠ w.heap.size := Box.apart HF.out B3.out (by simp)
      repeat (with_reducible refine flt_past np _ ?_)
      exact HF.out
    · repeat (with_reducible refine Keep.setAt ?_ ?_ _; · omega)
      exact K3.out
  | ok y =>
    rw [hz] at hln
    obtain ⟨x, rfl, hx⟩ := hln
    obtain ⟨px, cx, rfl⟩ := hx.slice
    have HX := Lib.hid hx
    have HE3 := Lib.hid (HL.out.trans hz)
    clear hx hz
    unfold lineV
    go_wp2_with fail
    refine bodyPost_ret (v := .tuple #[lineV y (.slice px y.args.length cx), .nilIface]) (by simp [results, Tryd.results11, go_sem, r3, lineV]; done) rfl ⟨LnR.ok HE3.out ?_, ?_⟩
    · refine OutP.base (OutP.but (S := fun z => z = w.heap.size) HX.out ?_ (fun g hg e => by omega)) (by omega)
      repeat (with_reducible refine KeepBut.setAt ?_ ?_ _; · exact .inl rfl)
      exact KeepBut.refl _ _
    · repeat (with_reducible refine Keep.setAt ?_ ?_ _; · omega)
      exact K3.out
theorem pparts_any (v : Value) (l : List Tok) (few : l.length ≤ 10000) (w : World) (h : TokAt w v l) :
    Calls Tryd.prog 11 #[v] w fun e w' => LnR (lineL l) w.heap.size e w' ∧ Keep w w' := by
  rcases Bool.eq_false_or_eq_true (isLblB l) with d | d
  · obtain ⟨t, ht, h2, hL⟩ := lineL_lab d
    have e : ∀ u, l[0]? = some u → u = t := fun u hu => by rw [ht] at hu; cases hu; rfl
    rcases Bool.eq_false_or_eq_true (regL [t]).isSome with g | g
    · exact pparts_reg v l few w h d (fun u hu => by rw [e u hu]; exact g)
    · by_cases h3 : l.length = 2
      · exact pparts_end v l few w h d (fun u hu => by rw [e u hu]; exact g) h3
      · exact pparts_cmd v l few w h d (fun u hu => by rw [e u hu]; exact g) h3
  · by_cases h0 : l.length = 0
    · exact pparts_none v l few w h d h0
    · exact pparts_op v l few w h d h0
end Go.Proofs.YtcdepfdfemmfhaaDoor

/- The program's Parse; PParse, PReg, PMem. -/
namespace Go.Proofs.YtcdepfdfemmfhaaDoor
set_option linter.unusedVariables false
set_option linter.unusedSimpArgs false
open Go.RowKit
set_option maxHeartbeats 8000000 in
set_option maxRecDepth 100000 in
theorem pParse : PParse Pre := by
  intro s w hs hP
  have B0 := Lib.hid (Box.new w #[.string ⟨#[]⟩, .string ⟨#[]⟩, .bool false, .slice none 0 0] 27)
  have K0 := Lib.hid ((Keep.refl w).alloc (.cells #[.string ⟨#[]⟩, .string ⟨#[]⟩, .bool false, .slice none 0 0] 27))
  have CL := Lib.hid (pLine s _ hs (hP.keep K0.out))
  have hsz : w.heap.size ≤ w.heap.size := Nat.le_refl _
  clear hP
  go_enter Tryd.func6, Tryd.ntmps6
  go_wp2_with fail
  refine CL.out.mono ?_
  intro e w1 h
  unfold LineP at h
  cases hx : lexL s.data.toList 0 with
  | error ix =>
    obtain ⟨i, x⟩ := ix
    rw [hx] at h
    obtain ⟨v, q, rfl, hf, hk3⟩ := h
    have HX := Lib.hid hx
    have K3 := Lib.hid (K0.out.trans hk3)
    have B3 := Lib.hid (B0.out.keep hk3)
    have HF := Lib.hid (hf : fltB w1 q colS i x)
    have r3 := B3.out.cells
    have f3 := B3.out.thawed
    clear hf hk3 hx
    unfold faultP
    go_wp2_with fail
    refine bodyPost_ret (v := .tuple #[.agg #[.string ⟨#[]⟩, .string ⟨#[]⟩, .bool false, .slice none 0 0], faultP q]) (by simp [results, Tryd.results6, go_sem, r3, faultP]; done) rfl ⟨?_, ?_⟩
    · repeat (with_reducible refine Keep.setAt ?_ ?_ _; · omega)
      exact K3.out
    · rw [HX.out]
      refine ⟨.slice none 0 0, q, rfl, (OutP.nil _ 0).args, ?_⟩
      have np : q ≠ w.heap.size := Box.apart HF.out B3.out (by simp)
      repeat (with_reducible refine flt_past np _ ?_)
      exact HF.out
  | ok ts =>
    rw [hx] at h
    obtain ⟨v, rfl, ho, hk2⟩ := h
    have hle := (lexL_toks _ _ _ _ (Nat.le_refl _) hx).2
    rw [show s.data.toList.length = s.size by simp] at hle
    have HX := Lib.hid hx
    have K1 := Lib.hid (K0.out.trans hk2)
    have B1 := Lib.hid (B0.out.keep hk2)
    have CP := Lib.hid (pparts_any v ts (by omega) w1 (own_toks ho))
    have SZ : Hid (w.heap.size < w1.heap.size) := Lib.hid B1.out.lt
    clear ho hk2 hx
    go_wp2_with fail
    refine CP.out.mono ?_
    rintro e w3 ⟨hln, hk3⟩
    have K3 := Lib.hid (K1.out.trans hk3)
    have B3 := Lib.hid (B1.out.keep hk3)
    have r3 := B3.out.cells
    have f3 := B3.out.thawed
    have szb := SZ.out
    clear hk3
    unfold LnR at hln
    cases hz : lineL ts with
    | error px =>
      obtain ⟨p, x⟩ := px
      rw [hz] at hln
      obtain ⟨q, rfl, hf⟩ := hln
      have HF := Lib.hid hf
      have HZ := Lib.hid hz
      clear hf hz
      unfold faultP lineV noLine
      dsimp only
      go_wp2_with fail
      refine bodyPost_ret (v := .tuple #[.agg #[.string ⟨#[]⟩, .string ⟨#[]⟩, .bool false, .slice none 0 0], faultP q]) (by simp [results, Tryd.results6, go_sem, r3, faultP]; done) rfl ⟨?_, ?_⟩
      · repeat (with_reducible refine Keep.setAt ?_ ?_ _; · omega)
        exact K3.out
      · rw [HX.out]
        dsimp only
        rw [HZ.out]
        refine ⟨.slice none 0 0, q, rfl, (OutP.nil _ 0).args, ?_⟩
        have np : q ≠ w.heap.size := Box.apart HF.out B3.out (by simp)
        repeat (with_reducible refine flt_past np _ ?_)
        exact HF.out
    | ok y =>
      rw [hz] at hln
      obtain ⟨x, rfl, hx⟩ := hln
      obtain ⟨px, cx, rfl⟩ := hx.slice
      have HY := Lib.hid hx
      have HZ := Lib.hid hz
      clear hx hz
      unfold lineV
      go_wp2_with fail
      refine bodyPost_ret (v := .tuple #[lineV y (.slice px y.args.length cx), .nilIface]) (by simp [results, Tryd.results6, go_sem, r3, lineV]; done) rfl ⟨?_, ?_⟩
      · repeat (with_reducible refine Keep.setAt ?_ ?_ _; · omega)
        exact K3.out
      · rw [HX.out]
        dsimp only
        rw [HZ.out]
        refine ⟨_, rfl, OutP.args (OutP.but (S := fun z => z = w.heap.size) HY.out ?_ (fun g hg e => by omega))⟩
        repeat (with_reducible refine KeepBut.setAt ?_ ?_ _; · exact .inl rfl)
        exact KeepBut.refl _ _
theorem pReg : PReg := fun v l w few h => preg14_any v l w few h
theorem preOk : PreOk Pre := ⟨Pre.keep, Pre.errT⟩
end Go.Proofs.YtcdepfdfemmfhaaDoor
