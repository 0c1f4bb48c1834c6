/- The program's gap, strings.Clone, Line: all words of a text. -/
import Derived.Test.YtcdepfdfemmfhaaDoorLexP3
import Derived.Test.YtcdepfdfemmfhaaDoorLineP
namespace Go.Proofs.YtcdepfdfemmfhaaDoor
set_option linter.unusedVariables false
set_option linter.unusedSimpArgs false
open Go.RowKit
/-- How many bytes stand ahead of the first word: all, if there is none. -/
def gapL (l : List UInt8) : Nat := match l.drop (spanL lxBlank l) with
  | [] => spanL lxBlank l
  | c :: _ => if (c.toNat : Int) = 59 then l.length else spanL lxBlank l
theorem gapL_le (l : List UInt8) : gapL l ≤ l.length := by
  have := spanL_le lxBlank l
  unfold gapL
  split
  · exact this
  · split <;> omega
theorem blank_iff (c : Int) : lxBlank c = true ↔ (c = 32 ∨ c = 9) := by simp [lxBlank]
theorem lexL_blanks : ∀ (l : List UInt8) (i : Nat), lexL l i = lexL (l.drop (spanL lxBlank l)) (i + spanL lxBlank l)
  | [], i => rfl
  | c :: r, i => by
    by_cases d : lxBlank c.toNat = true
    · have e : spanL lxBlank (c :: r) = spanL lxBlank r + 1 := by simp [spanL, d]
      rw [e, List.drop_succ_cons, lexL_blank i ((blank_iff _).1 d), lexL_blanks r (i + 1)]
      congr 1; omega
    · have e : spanL lxBlank (c :: r) = 0 := by simp [spanL, d]
      rw [e]; rfl
theorem lexL_gap (l : List UInt8) (i : Nat) : lexL l i = lexL (l.drop (gapL l)) (i + gapL l) := by
  rw [lexL_blanks l i]
  have hl := spanL_le lxBlank l
  unfold gapL
  cases hd : l.drop (spanL lxBlank l) with
  | nil => simp only [hd]
  | cons c r =>
    by_cases h : (c.toNat : Int) = 59
    · simp only [if_pos h]
      rw [lexL_semi _ h, List.drop_eq_nil_of_le (Nat.le_refl _)]; rfl
    · simp only [if_neg h, hd]
/-- Behind a gap: the end, or a byte that begins a word or none. -/
theorem gap_end (l : List UInt8) (h : gapL l < l.length) : ¬ ((l[gapL l]'h).toNat : Int) = 59 ∧ ¬ (((l[gapL l]'h).toNat : Int) = 32 ∨ ((l[gapL l]'h).toNat : Int) = 9) := by
  have hs : spanL lxBlank l < l.length := by
    rcases Nat.lt_or_ge (spanL lxBlank l) l.length with g | g
    · exact g
    · have e : gapL l = spanL lxBlank l := by unfold gapL; rw [List.drop_eq_nil_of_le g]
      omega
  have hd := List.drop_eq_getElem_cons hs
  have e1 : gapL l = if ((l[spanL lxBlank l]'hs).toNat : Int) = 59 then l.length else spanL lxBlank l := by
    conv => lhs; unfold gapL
    rw [hd]
  by_cases h59 : ((l[spanL lxBlank l]'hs).toNat : Int) = 59
  · rw [if_pos h59] at e1; omega
  · rw [if_neg h59] at e1
    have e2 : l[gapL l]'h = l[spanL lxBlank l]'hs := by simp only [e1]
    rw [e2]
    refine ⟨h59, fun hb => ?_⟩
    have := spanL_stop (p := lxBlank) l hs
    rw [(blank_iff _).2 hb] at this
    cases this
set_option maxHeartbeats 1000000 in
theorem pgap_any (s : ByteArray) (hs : s.size ≤ 1000000) (w : World) : Calls Tryd.prog 17 #[.string s] w fun e w' => e = .returned (.int .i64 (gapL s.data.toList)) ∧ w = w' := by
  have CS := Lib.hid (fun W => pspan_any _ _ tBlank s (by omega) W)
  unfold fnV at CS
  have hk := spanL_le lxBlank s.data.toList
  rw [show s.data.toList.length = s.size by simp] at hk
  obtain ⟨R, hR⟩ : ∃ R, R = gapL s.data.toList := ⟨_, rfl⟩
  rw [← hR]
  unfold gapL at hR
  have HR := Lib.hid hR
  clear hR
  generalize spanL lxBlank s.data.toList = k at CS HR hk
  by_cases h : k < s.size
  · have e := HR.out
    rw [drop_at s k h] at e
    have h' : (k : Int) < (s.size : Int) := by omega
    rcases Bool.eq_false_or_eq_true (((s[k]'h).toNat : Int) == 59) with d | d
    · have e2 : R = s.size := by rw [e, show s.data.toList.length = s.size by simp]; exact if_pos (beq_iff_eq.1 d)
      subst e2
      clear e HR
      go_enter Tryd.func17, Tryd.ntmps17
      go_wp2_with ((with_reducible refine (CS.out _).mono ?_); rintro e w' ⟨rfl, rfl⟩)
      go_ret
      exact ⟨rfl, rfl⟩
    · have e2 : R = k := by rw [e]; exact if_neg (beq_eq_false_iff_ne.1 d)
      subst e2
      clear e HR
      go_enter Tryd.func17, Tryd.ntmps17
      go_wp2_with ((with_reducible refine (CS.out _).mono ?_); rintro e w' ⟨rfl, rfl⟩)
      go_ret
      exact ⟨rfl, rfl⟩
  · have e := HR.out
    rw [drop_end s k (by omega)] at e
    have e2 : R = k := e
    subst e2
    have h' : ¬ (R : Int) < (s.size : Int) := by omega
    clear e HR
    go_enter Tryd.func17, Tryd.ntmps17
    go_wp2_with ((with_reducible refine (CS.out _).mono ?_); rintro e w' ⟨rfl, rfl⟩)
    go_ret
    exact ⟨rfl, rfl⟩
theorem pclone_any (s : ByteArray) (hs : s.size ≤ 1000000) (w : World) : Calls Tryd.prog 19 #[.string s] w fun e w' => e = .returned (.string s) ∧ Keep w w' := by
  have C := Lib.hid (Tryd.stringslite_Clone s w (by omega))
  go_enter Tryd.func19, Tryd.ntmps19
  go_wp2_with ((with_reducible refine C.out.mono ?_); rintro e w' ⟨rfl, hk⟩)
  go_ret
  exact ⟨rfl, hk⟩
/-- How far it is: at the end, or where a word is to begin. -/
def LineAt (s : ByteArray) (k : Nat) (ts : List Tok) : Prop := lexL s.data.toList 0 = lexApp ts (lexL (s.data.toList.drop k) k) ∧ ∀ h : k < s.size, ¬ ((s[k]'h).toNat : Int) = 59 ∧ ¬ (((s[k]'h).toNat : Int) = 32 ∨ ((s[k]'h).toNat : Int) = 9)
theorem LineAt.gap {s : ByteArray} {k : Nat} {ts : List Tok} (h : lexL s.data.toList 0 = lexApp ts (lexL (s.data.toList.drop k) k)) (hk : k ≤ s.size) : LineAt s (k + gapL (s.data.toList.drop k)) ts ∧ k + gapL (s.data.toList.drop k) ≤ s.size := by
  have hg := gapL_le (s.data.toList.drop k)
  have hl : (s.data.toList.drop k).length = s.size - k := by simp
  refine ⟨⟨?_, fun hlt => ?_⟩, by omega⟩
  · rw [h, lexL_gap (s.data.toList.drop k) k, List.drop_drop]
  · have := gap_end (s.data.toList.drop k) (by omega)
    rw [List.getElem_drop] at this
    exact this
theorem LineP.bad {l : List UInt8} {w w' : World} {i : Nat} {x : Int} (h : lexL l 0 = .error (i, x)) (v : Value) (q : Nat) (hb : faultB w' q colS i x) (k : Keep w w') : LineP l w (.returned (.tuple #[v, faultP q])) w' := by unfold LineP; rw [h]; exact ⟨v, q, rfl, hb, k⟩
theorem LineP.ok {l : List UInt8} {w w' : World} {ts : List Tok} {v : Value} (h : lexL l 0 = .ok ts) (ho : w'.ownsRow w.heap.size 45 4 v ts.length (tokRows ts)) (k : Keep w w') : LineP l w (.returned (.tuple #[v, .nilIface])) w' := by unfold LineP; rw [h]; exact ⟨v, rfl, ho, k⟩
set_option maxHeartbeats 2000000 in
set_option maxRecDepth 100000 in
theorem pline_any (s : ByteArray) (hs : s.size ≤ 1000000) (b : Addr) (w : World) (hG : ErrG w b) : Calls Tryd.prog 10 #[.string s] w (LineP s.data.toList w) := by
  obtain ⟨i0, hi0, hz0, hz1, hz2⟩ := info_parts infoLTok
  have HG := Lib.hid hG
  have CG := Lib.hid (fun W => pgap_any s hs W)
  have G0 := (LineAt.gap (s := s) (k := 0) (ts := []) (by rw [lexApp_nil, List.drop_zero]) (Nat.zero_le _))
  rw [Nat.zero_add, List.drop_zero] at G0
  generalize gapL s.data.toList = g at CG G0
  have HA0 := Lib.hid G0
  clear hG G0
  go_enter Tryd.func10, Tryd.ntmps10
  go_wp2_with ((with_reducible refine (CG.out _).mono ?_); rintro e w' ⟨rfl, rfl⟩)
  go_loopw [4, 5] (fun v i wr => ∃ (k : Nat) (ts : List Tok), k ≤ s.size ∧ i = .int .i64 (k : Int) ∧ ts.length ≤ k ∧ wr.ownsRow w.heap.size 45 4 v ts.length (tokRows ts) ∧ LineAt s k ts ∧ Keep w wr) (fun _ i _ => s.size - (intOf i).toNat)
  case atStart => exact ⟨g, [], HA0.out.2, rfl, Nat.zero_le _, World.ownsRow_nil _ _ _ _, HA0.out.1, Keep.refl _⟩
  case round =>
    obtain ⟨k, ts, hk, rfl, hts, hO, hA, hK⟩ := hrel
    have HO := Lib.hid hO
    have HA := Lib.hid hA
    have HK := Lib.hid hK
    clear hO hA hK HA0
    by_cases h : k < s.size
    · have dk := drop_at s k h
      have dx : (s.extract k s.size).data.toList = s[k] :: s.data.toList.drop (k + 1) := by rw [drop_ext, dk]
      have C := Lib.hid (fun W hW => pfirst_any (s.extract k s.size) (by rw [ByteArray.size_extract]; omega) (by rw [ByteArray.size_extract]; omega) b W hW)
      rw [dx] at C
      obtain ⟨n59, nbl⟩ := HA.out.2 h
      have HGr := Lib.hid (HG.out.keep HK.out)
      cases ho : oneL (s[k] :: s.data.toList.drop (k + 1)) with
      | error x =>
        have E : lexL s.data.toList 0 = .error (k, x) := by
          rw [HA.out.1, dk, lexL_err k n59 nbl ho]; rfl
        have HE := Lib.hid E
        have HX := Lib.hid ho
        clear E dk dx ho n59 nbl
        go_wp2_with fail
        refine (C.out _ HGr.out).mono ?_
        rintro e w1 ⟨hr, hk1⟩
        unfold PoneR at hr
        rw [HX.out] at hr
        obtain ⟨t, n, rfl⟩ := hr
        unfold tokV errnoV
        have K1 := Lib.hid (HK.out.trans hk1)
        clear hk1
        go_wp2_with fail
        refine bodyPost_ret (v := .tuple #[.slice none 0 0, .iface 49 (.pointer (some ⟨w1.heap.size + 1, 0, none⟩))]) (by simp [results, Tryd.results10, go_sem]; done) rfl (LineP.bad HE.out _ _ (Box.new1 _ _ _ _) ((K1.out.alloc _).alloc _))
      | ok x =>
        obtain ⟨t, n⟩ := x
        have hn := oneL_ok ho
        have hn1 := hn.1
        have hn2 : k + n ≤ s.size := by
          have := hn.2.1
          rw [← dk] at this
          simp at this
          omega
        have htx : t.text.size ≤ 1000000 := by
          have := hn.2.2.2
          rw [← dk] at this
          simp at this
          omega
        have E : lexL s.data.toList 0 = lexApp (ts ++ [{ t with pl := k }]) (lexL (s.data.toList.drop (k + n)) (k + n)) := by
          rw [HA.out.1, dk, lexL_ok k n59 nbl ho, lexApp_app, ← dk, List.drop_drop]
        have G1 := LineAt.gap E hn2
        have CG1 := Lib.hid (fun W => pgap_any (s.extract (k + n) s.size) (by rw [ByteArray.size_extract]; omega) W)
        rw [drop_ext] at CG1
        generalize gapL (s.data.toList.drop (k + n)) = g1 at G1 CG1
        have HE := Lib.hid G1
        have HX := Lib.hid ho
        have e1 : ((k : Int) + (n : Int)).toNat = k + n := by omega
        have e2 : (k : Int) + (n : Int) ≤ (s.size : Int) := by omega
        have e3 : (0 : Int) ≤ (k : Int) + (n : Int) := by omega
        have h' : (k : Int) < (s.size : Int) := by omega
        have hg1 : k + n + g1 ≤ s.size := G1.2
        clear E dk dx ho n59 nbl hn G1
        go_wp2_with fail
        refine (C.out _ HGr.out).mono ?_
        rintro e w1 ⟨hr, hk1⟩
        unfold PoneR at hr
        rw [HX.out] at hr
        subst hr
        unfold tokV
        have K1 := Lib.hid (HK.out.trans hk1)
        have O1 := Lib.hid (owns_keep HO.out hk1)
        have CT := Lib.hid (fun W => pclone_any t.text htx W)
        clear hk1
        go_wp2_with fail
        refine (CT.out _).mono ?_
        rintro e w2 ⟨rfl, hk2⟩
        have B2 := (Box.new w1 #[.int .i64 t.kind, .string t.text, .int .i64 t.n, .int .i64 k] 45).keep hk2
        have r2 := B2.cells
        have f2 := B2.thawed
        have K2 := Lib.hid ((K1.out.alloc _).trans hk2)
        have O2 := Lib.hid (owns_keep (O1.out.alloc _) hk2)
        have HB2 := Lib.hid B2
        have l2 : w1.heap.size < w2.heap.size := B2.lt
        clear hk2
        have s1 : w.heap.size ≤ w1.heap.size := K1.out.size
        have KS := Lib.hid (Keep.setAt (b := w1.heap.size) (i := 1) s1 K2.out (.string t.text))
        go_wp2_with (at_builtin; refine wpList_append_own _ rfl _ _ 34 rfl w.heap.size 45 i0 _ 4 40 Tryd.underlying34 hi0 hz0 hz1 hz2 rfl (by decide) _ _ _ rfl ((ownsRow_setCell_other O2.out ?c6 _).alloc _) ⟨w2.heap.size, 0, none⟩ 1 1 (tokRow { t with pl := k }) rfl rfl ?c1 ?c2 ?c3 ?c4 ?c5 ?_)
        case c6 =>
          intro hc
          have := (World.ownsRow.lt O1.out _ hc).2
          omega
        case c1 =>
          have BR := Box.new (w2.setCell ⟨w1.heap.size, 1, none⟩ (.string t.text)) #[.int .i64 t.kind, .string t.text, .int .i64 t.n, .int .i64 k] 45
          rw [show (w2.setCell ⟨w1.heap.size, 1, none⟩ (.string t.text)).heap.size = w2.heap.size by simp] at BR
          intro j u hj
          match j, hj with
          | 0, hj => simp [tokRow] at hj; subst hj; simp [Addr.add, BR.cells]
          | 1, hj => simp [tokRow] at hj; subst hj; simp [Addr.add, BR.cells]
          | 2, hj => simp [tokRow] at hj; subst hj; simp [Addr.add, BR.cells]
          | 3, hj => simp [tokRow] at hj; subst hj; simp [Addr.add, BR.cells]
          | (n + 4), hj => simp [tokRow] at hj
        case c2 => exact tokRow_one _
        case c3 => unfold maxLen; omega
        case c4 => omega
        case c5 => have := K2.out.size; simp; omega
        intro v' w3 hown' hgrow _
        have KG := Lib.hid (grown_keep (KS.out.alloc _) hgrow (fun c hc => by have := (World.ownsRow.lt O1.out c hc).1; omega))
        have OG := Lib.hid hown'
        clear hgrow hown'
        go_wp2_with ((with_reducible refine (CG1.out _).mono ?_); rintro e w' ⟨rfl, rfl⟩)
        go_roundw
        case rel => exact ⟨k + n + g1, ts ++ [{ t with pl := k }], hg1, by go_num, by simp; omega, by simpa [tokRows_append, tokRows] using OG.out, HE.out.1, KG.out⟩
        case measure => simp [intOf]; omega
    · obtain rfl : k = s.size := by omega
      have E : lexL s.data.toList 0 = .ok ts := by
        rw [HA.out.1, drop_end s s.size (Nat.le_refl _), lexL_nil]
        simp [lexApp]
      have HE := Lib.hid E
      clear E
      go_wp2_with fail
      refine bodyPost_ret (v := .tuple #[u4, .nilIface]) (by simp [results, Tryd.results10, go_sem]; done) rfl (LineP.ok HE.out HO.out HK.out)
theorem pLine : PLine := fun s w hs hP => hP.2.elim fun b hb => pline_any s (by omega) b w hb
end Go.Proofs.YtcdepfdfemmfhaaDoor
