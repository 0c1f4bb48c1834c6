/- The program's number: the one that a text begins with, whose digits' places are known. -/
import Derived.Test.YtcdepfdfemmfhaaDoorLexP1
import Derived.Test.YtcdepfdfemmfhaaDoorLexIs
namespace Go.Proofs.YtcdepfdfemmfhaaDoor
set_option linter.unusedVariables false
set_option linter.unusedSimpArgs false
open Go.RowKit
theorem oneL_num {c : UInt8} {r : List UInt8} (h : lxDigit c.toNat = true) : oneL (c :: r) = if numErr (c :: r) = 0 then .ok (⟨2, strL ((c :: r).take (numLen (c :: r))), numVal (c :: r), 0⟩, numLen (c :: r)) else .error (numErr (c :: r)) := by
  have hl : ¬ lxLetter c.toNat = true := by rw [lxLetter_iff]; rw [lxDigit_iff] at h; omega
  conv => lhs; unfold oneL
  dsimp only
  rw [if_neg hl, if_pos h]
theorem pparse_any (t : ByteArray) (hne : t.size ≠ 0) (hmax : t.size ≤ 1000000) (B : Int) (hB : B = 10 ∨ B = 16) (hd : ∀ c ∈ t.data.toList, 0 ≤ lxHex c.toNat ∧ lxHex c.toNat < B) (w : World) :
    Calls Tryd.prog 53 #[.string t, .int .i64 B, .int .i64 40] w fun e w' => e = .returned (puV B t.data.toList) ∧ w' = Lib.bytesWorld w 5 t := by
  rcases hB with rfl | rfl
  · exact pparse10 t hne hmax hd w
  · exact pparse16 t hne hmax hd w
theorem numBase_or (l : List UInt8) : numBase l = 10 ∨ numBase l = 16 := by unfold numBase; split <;> simp
theorem badNext_drop (l : List UInt8) (k : Nat) (h : k < l.length) : badNext (l.drop k) = (lxLetter (l[k]'h).toNat || lxDigit (l[k]'h).toNat) := by
  rw [List.drop_eq_getElem_cons h]; rfl
set_option maxHeartbeats 2000000 in
set_option maxRecDepth 100000 in
theorem pnumber_any (s : ByteArray) (h0 : 0 < s.size) (hs : s.size ≤ 1000000) (hdig : lxDigit (s[0]'h0).toNat = true) (b : Addr) (w : World) (hG : ErrG w b) :
    Calls Tryd.prog 35 #[.string s, .int .i64 (numAt s.data.toList), .int .i64 (numLen s.data.toList), .int .i64 (numBase s.data.toList)] w fun e w' => PoneR s.data.toList e ∧ Keep w w' := by
  have E := oneL_num (r := s.data.toList.drop 1) hdig
  rw [← list_at s h0] at E
  have hlen : s.data.toList.length = s.size := by simp
  have hpos := numLen_pos (s[0]'h0) (s.data.toList.drop 1) hdig
  rw [← list_at s h0] at hpos
  have hN := numLen_le s.data.toList
  have hstop := num_stop s.data.toList
  have hv := numVal_span s.data.toList
  have ha := num_all s.data.toList
  have hAN : numAt s.data.toList < numLen s.data.toList := by
    unfold numAt
    by_cases hx : isHexL s.data.toList = true
    · rw [if_pos hx]
      have e := numLen_span s.data.toList
      have h3 : 2 < s.size := by
        rcases Nat.lt_or_ge 2 s.size with h | h
        · exact h
        · rw [isHexL_short s h] at hx; cases hx
      have e2 := isHexL_at s h3
      rw [hx] at e2
      have h4 : 0 ≤ lxHex (s[2]'h3).toNat := by
        have := e2.symm; simp only [Bool.and_eq_true, decide_eq_true_eq] at this; exact this.2
      have h5 : spanL (numP s.data.toList) (s.data.toList.drop 2) = spanL (numP s.data.toList) (s.data.toList.drop 3) + 1 := span_at s 2 h3 (by
        unfold numP; rw [if_pos hx]; unfold lxIsHex; exact decide_eq_true h4)
      unfold numAt at e
      rw [if_pos hx] at e
      omega
    · rw [if_neg hx]; omega
  have hbn : badNext (s.data.toList.drop (numLen s.data.toList)) = if h : numLen s.data.toList < s.size then lxLetter (s[numLen s.data.toList]'h).toNat else false := by
    by_cases h : numLen s.data.toList < s.size
    · rw [dif_pos h, badNext_drop _ _ (by omega), hstop (by omega), Bool.or_false] <;> rfl
    · rw [dif_neg h, List.drop_eq_nil_of_le (by omega)]; rfl
  have hB := numBase_or s.data.toList
  have hvb := numVal_bd s.data.toList
  have hne : numErr s.data.toList = if badNext (s.data.toList.drop (numLen s.data.toList)) = true then 11 else if lxBig ≤ numVal s.data.toList then 14 else 0 := rfl
  rw [hbn] at hne
  clear hbn hstop hpos
  generalize hA : numAt s.data.toList = A at hv ha hAN
  generalize hNN : numLen s.data.toList = N at E hN hv ha hAN hne
  generalize hBB : numBase s.data.toList = B at hv ha hB
  generalize hV : numVal s.data.toList = V at E hv hvb hne
  generalize hX : numErr s.data.toList = X at E hne
  clear hA hNN hBB hV hX hdig
  have hN2 : (N : Int) ≤ (s.size : Int) := by omega
  have hA2 : (A : Int) ≤ (N : Int) := by omega
  have hN3 : N ≤ s.size := by omega
  obtain ⟨v0, v1⟩ := hvb
  have v2 : V ≤ 1099511627776 := v1
  clear v1
  have B0 := tok_new w
  have r0 := B0.cells
  have rf := B0.thawed
  have K0 := Lib.hid ((Keep.refl w).alloc (.cells #[.int .i64 0, .string ⟨#[]⟩, .int .i64 0, .int .i64 0] 45))
  have ht : (s.extract A N).data.toList = (s.data.toList.drop A).take (N - A) := by
    rw [ByteArray.data_extract, Array.toList_extract]; try simp only [List.extract_eq_take_drop]
  have hts : (s.extract A N).size = N - A := by rw [ByteArray.size_extract]; omega
  have HC := Lib.hid (fun W hW => ppublic_any B (s.extract A N) (by omega) b (fun W => pparse_any (s.extract A N) (by omega) (by omega) B hB (by rw [ht]; exact ha) W) W hW)
  unfold PuR at HC
  rw [ht, hv] at HC
  clear ht hts hv ha hB hAN
  have HG := Lib.hid (hG.keep K0.out)
  have HN := Lib.hid (fun (v : Value) => (Box.cells (vs := #[.int .i64 0, .string ⟨#[]⟩, .int .i64 0, .int .i64 0]) B0))
  clear HN
  by_cases letter : ∃ h : N < s.size, lxLetter (s[N]'h).toNat = true
  · obtain ⟨h, d⟩ := letter
    have CL := Lib.hid (fun W => pletter_any (s[N]'h).toNat W)
    rw [d] at CL
    rw [dif_pos h, d, if_pos rfl] at hne
    subst hne
    rw [if_neg (by decide)] at E
    have HE := Lib.hid E
    have h' : (N : Int) < (s.size : Int) := by omega
    clear E d HC hG
    go_enter Tryd.func35, Tryd.ntmps35
    go_wp2_with ((with_reducible refine (CL.out _).mono ?_); rintro e w' ⟨rfl, rfl⟩)
    refine bodyPost_ret (v := .tuple #[.agg #[.int .i64 0, .string ⟨#[]⟩, .int .i64 0, .int .i64 0], .int .i64 0, .iface 55 (.int .i64 11)]) (by simp [results, Tryd.results35, go_sem, r0]; done) rfl ⟨PoneR.bad HE.out zTok 0, ?_⟩
    repeat (with_reducible refine Keep.setAt ?_ ?_ _; · first | omega | (simp; done) | (simp; omega))
    exact K0.out
  · have hne2 : X = if lxBig ≤ V then 14 else 0 := by
      rw [hne]
      by_cases h : N < s.size
      · rw [dif_pos h, if_neg (fun d => letter ⟨h, d⟩)]
      · rw [dif_neg h, if_neg (by decide)]
    clear hne
    have HE : Hid ((V < lxBig → oneL s.data.toList = .ok (⟨2, s.extract 0 N, V, 0⟩, N)) ∧ (¬ V < lxBig → oneL s.data.toList = .error 14)) := Lib.hid ⟨fun h => by
      rw [if_neg (by omega)] at hne2
      rw [E, if_pos hne2, ext_take, List.drop_zero, Nat.sub_zero], fun h => by
      rw [if_pos (by omega)] at hne2
      rw [E, hne2, if_neg (by decide)]⟩
    clear E hne2
    have ways : (∃ h : N < s.size, lxLetter (s[N]'h).toNat = false) ∨ N = s.size := by
      by_cases h : N < s.size
      · exact .inl ⟨h, by cases d : lxLetter (s[N]'h).toNat with | false => rfl | true => exact absurd ⟨h, d⟩ letter⟩
      · exact .inr (by omega)
    clear letter hG
    have HW := Lib.hid ways
    clear ways
    obtain ⟨Z, hZ⟩ : ∃ Z, Z = w.alloc (.cells #[.int .i64 0, .string ⟨#[]⟩, .int .i64 0, .int .i64 0] 45) := ⟨_, rfl⟩
    rcases HW.out with ⟨h, d⟩ | rfl
    · have CL := Lib.hid (fun W => pletter_any (s[N]'h).toNat W)
      rw [d] at CL
      have h' : (N : Int) < (s.size : Int) := by omega
      clear d HW
      go_enter Tryd.func35, Tryd.ntmps35
      go_wp2_with ((with_reducible refine (CL.out _).mono ?_); rintro e w' ⟨rfl, rfl⟩)
      refine (HC.out _ HG.out).mono ?_
      rintro e w1 ⟨⟨hlt, rfl⟩ | ⟨hge, M, f, x, rfl, hb⟩, hk⟩
      · have B1 := (B0.keep hk)
        have r1 := B1.cells
        have rg := B1.thawed
        have K1 := Lib.hid (K0.out.trans hk)
        have G1 := HG.out.keep hk
        unfold ErrG at G1
        have v3 : V < 1099511627776 := hlt
        have CI := Lib.hid (fun W => isr_nil b W)
        have HL := Lib.hid (HE.out.1 hlt)
        clear hlt hk r0 rf HE
        go_wp2_with ((with_reducible refine (CI.out _).mono ?_); rintro e w' ⟨rfl, rfl⟩)
        refine bodyPost_ret (v := .tuple #[.agg #[.int .i64 2, .string (s.extract 0 N), .int .i64 V, .int .i64 0], .int .i64 N, .nilIface]) (by simp [results, Tryd.results35, go_sem, r1]; done) rfl ⟨PoneR.ok HL.out, ?_⟩
        repeat (with_reducible refine Keep.setAt ?_ ?_ _; · first | omega | (simp; done) | (simp; omega))
        exact K1.out
      · have B1 := (B0.keep hk)
        have r1 := B1.cells
        have rg := B1.thawed
        have K1 := Lib.hid (K0.out.trans hk)
        have G1 := HG.out.keep hk
        unfold ErrG at G1
        have CI := Lib.hid (isr_num M f x b _ hb)
        have HL := Lib.hid (HE.out.2 hge)
        clear hge hk r0 rf HE hb
        go_wp2_with ((with_reducible refine CI.out.mono ?_); rintro e w' ⟨rfl, rfl⟩)
        refine bodyPost_ret (v := .tuple #[.agg #[.int .i64 0, .string ⟨#[]⟩, .int .i64 0, .int .i64 0], .int .i64 0, .iface 55 (.int .i64 14)]) (by simp [results, Tryd.results35, go_sem, r1]; done) rfl ⟨PoneR.bad HL.out zTok 0, ?_⟩
        repeat (with_reducible refine Keep.setAt ?_ ?_ _; · first | omega | (simp; done) | (simp; omega))
        exact K1.out
    · clear HW
      go_enter Tryd.func35, Tryd.ntmps35
      go_wp2_with fail
      refine (HC.out _ HG.out).mono ?_
      rintro e w1 ⟨⟨hlt, rfl⟩ | ⟨hge, M, f, x, rfl, hb⟩, hk⟩
      · have B1 := (B0.keep hk)
        have r1 := B1.cells
        have rg := B1.thawed
        have K1 := Lib.hid (K0.out.trans hk)
        have G1 := HG.out.keep hk
        unfold ErrG at G1
        have v3 : V < 1099511627776 := hlt
        have CI := Lib.hid (fun W => isr_nil b W)
        have HL := Lib.hid (HE.out.1 hlt)
        clear hlt hk r0 rf HE
        go_wp2_with ((with_reducible refine (CI.out _).mono ?_); rintro e w' ⟨rfl, rfl⟩)
        refine bodyPost_ret (v := .tuple #[.agg #[.int .i64 2, .string (s.extract 0 s.size), .int .i64 V, .int .i64 0], .int .i64 s.size, .nilIface]) (by simp [results, Tryd.results35, go_sem, r1]; done) rfl ⟨PoneR.ok HL.out, ?_⟩
        repeat (with_reducible refine Keep.setAt ?_ ?_ _; · first | omega | (simp; done) | (simp; omega))
        exact K1.out
      · have B1 := (B0.keep hk)
        have r1 := B1.cells
        have rg := B1.thawed
        have K1 := Lib.hid (K0.out.trans hk)
        have G1 := HG.out.keep hk
        unfold ErrG at G1
        have CI := Lib.hid (isr_num M f x b _ hb)
        have HL := Lib.hid (HE.out.2 hge)
        clear hge hk r0 rf HE hb
        go_wp2_with ((with_reducible refine CI.out.mono ?_); rintro e w' ⟨rfl, rfl⟩)
        refine bodyPost_ret (v := .tuple #[.agg #[.int .i64 0, .string ⟨#[]⟩, .int .i64 0, .int .i64 0], .int .i64 0, .iface 55 (.int .i64 14)]) (by simp [results, Tryd.results35, go_sem, r1]; done) rfl ⟨PoneR.bad HL.out zTok 0, ?_⟩
        repeat (with_reducible refine Keep.setAt ?_ ?_ _; · first | omega | (simp; done) | (simp; omega))
        exact K1.out
end Go.Proofs.YtcdepfdfemmfhaaDoor
