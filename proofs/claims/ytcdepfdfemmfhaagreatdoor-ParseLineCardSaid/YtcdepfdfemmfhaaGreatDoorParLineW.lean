/- ParseLine's walk, over what the program's Parse, Reg, Mem are to answer. -/
import Derived.Test.YtcdepfdfemmfhaaGreatDoorParKnown
namespace Go.Proofs.YtcdepfdfemmfhaaGreatDoor
set_option linter.unusedVariables false
set_option linter.unusedSimpArgs false
open Go.RowKit
/-- The line, and what is wrong, of a text. -/
def lineRes (l : List UInt8) : PLn × ByteArray × Int × Int := match lexL l 0 with
  | .error (i, x) => (noLine, colS, (i : Int), x)
  | .ok ts => match lineL ts with
    | .error (p, x) => (noLine, tokS, (p : Int), x)
    | .ok q => (q, ⟨#[]⟩, 0, 0)
theorem opsL_few : ∀ (l : List Tok) (a o : Nat) (os : List (List Tok)) (ws : List Tok) (out : List (List Tok)), opsL l a os ws o = .ok out → out.length ≤ os.length + l.length + 1 ∧ ∀ x ∈ out, x ∈ os ∨ x.length ≤ ws.length + l.length
  | [], a, o, os, ws, out, h => by
    have h : (if ws = [] then Except.error a else Except.ok (os ++ [ws])) = .ok out := h
    split at h
    · cases h
    · cases h
      refine ⟨by simp, fun x hx => ?_⟩
      simp only [List.mem_append, List.mem_singleton] at hx
      rcases hx with hx | rfl
      · exact .inl hx
      · exact .inr (by omega)
  | t :: r, a, o, os, ws, out, h => by
    have h : (if o = 0 ∧ tokIs t sComma = true then (if ws = [] then Except.error a else opsL r (a + 1) (os ++ [ws]) [] 0) else opsL r (a + 1) os (ws ++ [t]) (openAfter t o)) = .ok out := h
    split at h
    · split at h
      · cases h
      · obtain ⟨h1, h2⟩ := opsL_few r _ _ _ _ out h
        refine ⟨by simp at h1 ⊢; omega, fun x hx => ?_⟩
        rcases h2 x hx with h3 | h3
        · simp only [List.mem_append, List.mem_singleton] at h3
          rcases h3 with h3 | rfl
          · exact .inl h3
          · exact .inr (by omega)
        · exact .inr (by simp at h3 ⊢; omega)
    · obtain ⟨h1, h2⟩ := opsL_few r _ _ _ _ out h
      refine ⟨by simp at h1 ⊢; omega, fun x hx => ?_⟩
      rcases h2 x hx with h3 | h3
      · exact .inl h3
      · exact .inr (by simp at h3 ⊢; omega)
theorem restL_know {l : List Tok} {lb : ByteArray} {a : Nat} : (∀ p x, restL l lb a = .error (p, x) → x = 11) ∧ ∀ q, restL l lb a = .ok q → q.args.length ≤ l.length + 1 ∧ ∀ x ∈ q.args, x.length ≤ l.length := by
  unfold restL
  split
  · exact ⟨(fun p x h => by cases h), (fun q h => by cases h; exact ⟨by simp, fun x hx => by simp at hx⟩)⟩
  · rename_i t ht
    split
    · exact ⟨(fun p x h => by cases h; rfl), (fun q h => by cases h)⟩
    · split
      · exact ⟨(fun p x h => by cases h), (fun q h => by cases h; exact ⟨by simp, fun x hx => by simp at hx⟩)⟩
      · split
        · exact ⟨(fun p x h => by cases h; rfl), (fun q h => by cases h)⟩
        · rename_i o ho
          refine ⟨(fun p x h => by cases h), (fun q h => ?_)⟩
          cases h
          obtain ⟨h1, h2⟩ := opsL_few _ _ _ _ _ _ ho
          simp only [List.length_drop, List.length_nil] at h1 h2
          refine ⟨by dsimp only; omega, fun x hx => ?_⟩
          rcases h2 x hx with h3 | h3
          · simp at h3
          · omega
theorem lineL_know {l : List Tok} : (∀ p x, lineL l = .error (p, x) → x = 11 ∨ x = 12) ∧ ∀ q, lineL l = .ok q → q.args.length ≤ l.length + 1 ∧ ∀ x ∈ q.args, x.length ≤ l.length := by
  unfold lineL
  split
  · split
    · split
      · exact ⟨(fun p x h => by cases h; exact .inr rfl), (fun q h => by cases h)⟩
      · exact ⟨fun p x h => .inl (restL_know.1 p x h), fun q h => restL_know.2 q h⟩
    · exact ⟨fun p x h => .inl (restL_know.1 p x h), fun q h => restL_know.2 q h⟩
  · exact ⟨fun p x h => .inl (restL_know.1 p x h), fun q h => restL_know.2 q h⟩
theorem lineRes_few (s : ByteArray) (hs : s.size ≤ 1000) : (lineRes s.data.toList).1.args.length ≤ 2000 ∧ ∀ x ∈ (lineRes s.data.toList).1.args, x.length ≤ 2000 := by
  unfold lineRes
  cases h : lexL s.data.toList 0 with
  | error ix => exact ⟨by simp [noLine], fun x hx => by simp [noLine] at hx⟩
  | ok ts =>
    have hts := (lexL_toks _ _ _ _ (Nat.le_refl _) h).2
    have hl : s.data.toList.length = s.size := by simp
    dsimp only
    cases h2 : lineL ts with
    | error px => exact ⟨by simp [noLine], fun x hx => by simp [noLine] at hx⟩
    | ok q =>
      obtain ⟨a, b⟩ := lineL_know.2 q h2
      exact ⟨by dsimp only; omega, fun x hx => by have := b x hx; omega⟩
theorem ParseP.res {l : List UInt8} {w w' : World} {e : Ending} (h : ParseP l w e w') : ∃ v ev, e = .returned (.tuple #[lineV (lineRes l).1 v, ev]) ∧ ArgsAt w' v (lineRes l).1.args ∧ ErrV w' ev (wrongV (lineRes l).2.1 (lineRes l).2.2.1 (lineRes l).2.2.2) ∧ Keep w w' := by
  obtain ⟨k, h⟩ := h
  unfold lineRes
  cases hx : lexL l 0 with
  | error ix =>
    rw [hx] at h
    obtain ⟨v, q, rfl, ha, hf⟩ := h
    exact ⟨v, faultP q, rfl, ha, .inr ⟨q, colS, ix.1, ix.2, by rcases lexL_bad _ _ _ ix.1 ix.2 (Nat.le_refl _) hx with h | h | h <;> rw [h] <;> decide, rfl, rfl, hf⟩, k⟩
  | ok ts =>
    rw [hx] at h
    dsimp only at h ⊢
    cases hy : lineL ts with
    | error px =>
      rw [hy] at h
      obtain ⟨v, q, rfl, ha, hf⟩ := h
      exact ⟨v, faultP q, rfl, ha, .inr ⟨q, tokS, px.1, px.2, by rcases lineL_know.1 px.1 px.2 hy with h | h <;> rw [h] <;> decide, rfl, rfl, hf⟩, k⟩
    | ok q =>
      rw [hy] at h
      obtain ⟨v, rfl, ha⟩ := h
      exact ⟨v, .nilIface, rfl, ha, ErrV.isOk, k⟩
theorem ParR.res {l : List UInt8} {w w' : World} {e : Ending} (h : ParR l w e w') : ∃ v, e = .returned (.tuple #[lineV (lineRes l).1 v, wrongV (lineRes l).2.1 (lineRes l).2.2.1 (lineRes l).2.2.2]) ∧ ArgsAt w' v (lineRes l).1.args := by
  unfold ParR at h
  unfold lineRes
  cases hx : lexL l 0 with
  | error ix => rw [hx] at h; exact ⟨.slice none 0 0, h, none, 0, rfl, Nat.le_refl _, .inl rfl⟩
  | ok ts =>
    rw [hx] at h
    dsimp only at h ⊢
    cases hy : lineL ts with
    | error px => rw [hy] at h; exact ⟨.slice none 0 0, h, none, 0, rfl, Nat.le_refl _, .inl rfl⟩
    | ok q =>
      rw [hy] at h
      obtain ⟨v, rfl, ha⟩ := h
      exact ⟨v, rfl, ha.args⟩
set_option maxHeartbeats 4000000 in
set_option maxRecDepth 100000 in
theorem parseLine_walk {Pre : World → Prop} (hPre : PreOk Pre) (hP : PParse Pre) (hR : PReg) (hM : PMem) (s : ByteArray) (hs : s.size ≤ 9223372036854775807) (w : World) (hW : Pre w) : Calls Tryz.prog 3 #[.string s] w fun e w' => e = .returned (.bool true) ∧ Keep w w' := by
  have CK := Lib.hid (known14_any hPre hP hR hM w hW)
  have HPre := Lib.hid hPre
  have HP := Lib.hid hP
  have HR := Lib.hid hR
  have HM := Lib.hid hM
  have HW := Lib.hid hW
  clear hPre hP hR hM hW
  by_cases big : 300 < s.size
  · go_enter Tryz.func3, Tryz.ntmps3
    go_wp2_with fail
    refine CK.out.mono ?_
    rintro e w1 ⟨rfl, hk1⟩
    have K1 := Lib.hid hk1
    have bigi : (300 : Int) < (s.size : Int) := by omega
    clear hk1
    go_wp2_with fail
    go_ret
    exact ⟨rfl, K1.out⟩
  · have sbi : decide ((300 : Int) < (s.size : Int)) = false := decide_eq_false (by omega)
    obtain ⟨few1, few2⟩ := lineRes_few s (by omega)
    have CR := Lib.hid (fun W => rparse_any s (by omega) W)
    have CP := Lib.hid (fun W (h : Pre W) => HP.out s W (by omega) h)
    have RP := Lib.hid (fun w e w' (h : ParseP s.data.toList w e w') => h.res)
    have RR := Lib.hid (fun w e w' (h : ParR s.data.toList w e w') => h.res)
    generalize lineRes s.data.toList = res at few1 few2 RP RR
    obtain ⟨⟨la, na, d, args⟩, part, at_, n⟩ := res
    try dsimp only at few1 few2
    have F2 := Lib.hid few2
    clear few2
    go_enter Tryz.func3, Tryz.ntmps3
    go_wp2_with fail
    refine CK.out.mono ?_
    rintro e w1 ⟨rfl, hk1⟩
    have K1 := Lib.hid hk1
    clear hk1
    go_wp2_with fail
    refine (CP.out _ (HPre.out.keep HW.out K1.out)).mono ?_
    intro e w2 h
    obtain ⟨u, ev, rfl, hu, hev, hk2⟩ := RP.out _ _ _ h
    try dsimp only at hu hev
    have HU := Lib.hid hu
    obtain ⟨pu, cu, rfl⟩ := hu.slice
    have HE := Lib.hid hev
    have K2 := Lib.hid (K1.out.trans hk2)
    clear h hu hev hk2
    unfold lineV
    try dsimp only
    have BP := Lib.hid (Box.new w2 #[.string la, .string na, .bool d, .slice pu args.length cu] 25)
    have KA := Lib.hid ((Keep.refl w2).alloc (.cells #[.string la, .string na, .bool d, .slice pu args.length cu] 25))
    go_wp2_with fail
    refine (CR.out _).mono ?_
    rintro e w3 ⟨h, hk3⟩
    obtain ⟨v, rfl, hv⟩ := RR.out _ _ _ h
    try dsimp only at hv
    have HV := Lib.hid hv
    obtain ⟨pv, cv, rfl⟩ := hv.slice
    have KB := Lib.hid (KA.out.trans hk3)
    have BP3 := Lib.hid (BP.out.keep hk3)
    clear h hv hk3
    unfold lineV wrongV
    try dsimp only
    have BQ := Lib.hid ((Box.new w3 #[.string la, .string na, .bool d, .slice pv args.length cv] 32).alloc (.cells #[.string part, .int .i64 at_, .int .i64 n] 34))
    have KC := Lib.hid ((KB.out.alloc (.cells #[.string la, .string na, .bool d, .slice pv args.length cv] 32)).alloc (.cells #[.string part, .int .i64 at_, .int .i64 n] 34))
    have K3 := Lib.hid (((Keep.refl w3).alloc (.cells #[.string la, .string na, .bool d, .slice pv args.length cv] 32)).alloc (.cells #[.string part, .int .i64 at_, .int .i64 n] 34))
    have BP4 := Lib.hid ((BP3.out.alloc (.cells #[.string la, .string na, .bool d, .slice pv args.length cv] 32)).alloc (.cells #[.string part, .int .i64 at_, .int .i64 n] 34))
    have CT := Lib.hid (tells_any ev (wrongV part at_ n) _ (HE.out.keep KC.out) (HPre.out.errT (HPre.out.keep HW.out (K2.out.trans KC.out))))
    unfold wrongV at CT
    go_wp2_with fail
    refine CT.out.mono ?_
    rintro e w4 ⟨rfl, hk4⟩
    have BP5 := Lib.hid (BP4.out.keep hk4)
    have BQ5 := Lib.hid (BQ.out.keep hk4)
    have KD := Lib.hid (KC.out.trans hk4)
    have K4 := Lib.hid (K3.out.trans hk4)
    have r1 := BP5.out.cells
    have r2 := BQ5.out.cells
    clear hk4
    go_wp2_with fail
    refine (sameLine la na d _ _ args (by omega) (fun l hl => by have := F2.out l hl; omega) _ (HU.out.keep KD.out) (HV.out.keep K4.out)).mono ?_
    rintro e w5 ⟨rfl, hk5⟩
    have BP6 := Lib.hid (BP5.out.keep hk5)
    have BQ6 := Lib.hid (BQ5.out.keep hk5)
    have UU := Lib.hid ((HU.out.keep KD.out).keep hk5)
    have VV := Lib.hid ((HV.out.keep K4.out).keep hk5)
    have KE := Lib.hid ((K2.out.trans KD.out).trans hk5)
    clear hk5 r1 r2 BP BP3 BP4 BP5 BQ BQ5 KA KB KC KD K3 K4 HU HV HE CT CR CP CK
    go_wp2_with fail
    go_loopw [7] (fun i wr => ∃ k : Nat, k ≤ args.length ∧ i = .int .i64 (k : Int) ∧ Keep w5 wr) (fun i _ => args.length - (intOf i).toNat)
    case atStart => exact ⟨0, Nat.zero_le _, rfl, Keep.refl _⟩
    case round =>
      obtain ⟨k, hk, rfl, hK⟩ := hrel
      have HK := Lib.hid hK
      clear hK
      have k0 : (0 : Int) ≤ (k : Int) := Int.natCast_nonneg _
      have r1 := (BP6.out.keep HK.out).cells
      have r2 := (BQ6.out.keep HK.out).cells
      by_cases h : k < args.length
      · have h' : (k : Int) < (args.length : Int) := by omega
        obtain ⟨l, hl⟩ : ∃ l, args[k]? = some l := ⟨_, List.getElem?_eq_getElem h⟩
        have hfew := F2.out l (List.mem_of_getElem? hl)
        obtain ⟨b, off, cap, x1, y1, e1, hb, ca, ta⟩ := UU.out.get hl
        obtain ⟨b', off', cap', x2, y2, e2, hb', cb, tb⟩ := VV.out.get hl
        cases e1
        cases e2
        have CA := Lib.hid ca
        have CB := Lib.hid cb
        have TA := Lib.hid ta
        have TB := Lib.hid tb
        have c1 := HK.out.cellOf ca
        have c2 := HK.out.cellOf cb
        clear ca cb ta tb hl
        go_wp2_with fail
        refine (HR.out _ l _ (by omega) (TA.out.keep HK.out)).mono ?_
        rintro e wa ⟨rfl, ka⟩
        have KA := Lib.hid (HK.out.trans ka)
        have s1 := (BP6.out.keep KA.out).cells
        have s2 := (BQ6.out.keep KA.out).cells
        have d1 := KA.out.cellOf CA.out
        have d2 := KA.out.cellOf CB.out
        clear ka r1 r2 c1 c2
        obtain ⟨rv, rb, hrv⟩ : ∃ (rv : Int) (rb : Bool), regV (regL l) = .tuple #[.int .i64 rv, .bool rb] := by
          cases regL l with
          | none => exact ⟨_, _, rfl⟩
          | some r => exact ⟨_, _, rfl⟩
        have HRV := Lib.hid hrv
        rw [hrv]
        clear hrv
        go_wp2_with fail
        refine (rreg_any _ l (by omega) _ (TB.out.keep KA.out)).mono ?_
        rintro e wb ⟨rfl, kb⟩
        rw [HRV.out]
        have KB := Lib.hid (KA.out.trans kb)
        have t1 := (BP6.out.keep KB.out).cells
        have t2 := (BQ6.out.keep KB.out).cells
        have f1 := KB.out.cellOf CA.out
        have f2 := KB.out.cellOf CB.out
        clear kb s1 s2 d1 d2
        go_wp2_with fail
        refine (HM.out _ l _ (by omega) (TA.out.keep KB.out)).mono ?_
        rintro e wc ⟨hm, kc⟩
        have KC := Lib.hid (KB.out.trans kc)
        have q1 := (BP6.out.keep KC.out).cells
        have q2 := (BQ6.out.keep KC.out).cells
        have g1 := KC.out.cellOf CA.out
        have g2 := KC.out.cellOf CB.out
        clear kc t1 t2 f1 f2
        obtain ⟨m, mr, mb, mv, he, hmv, hmr, hml⟩ : ∃ (m : List Tok) (mr : Int) (mb : Bool) (mv : Value), e = .returned (.tuple #[mv, .int .i64 mr, .bool mb]) ∧ TokAt wc mv m ∧ (∀ e' w', MemV l e' w' → ∃ nv, e' = .returned (.tuple #[nv, .int .i64 mr, .bool mb]) ∧ TokAt w' nv m) ∧ m.length ≤ l.length := by
          unfold MemP at hm
          cases hx : memL l with
          | none =>
            rw [hx] at hm
            obtain ⟨mv, rfl, ht⟩ := hm
            exact ⟨[], 0, false, mv, rfl, ht, fun e' w' h' => by unfold MemV at h'; rw [hx] at h'; exact ⟨.slice none 0 0, h', TokAt.nil _⟩, by simp⟩
          | some y =>
            obtain ⟨m, r⟩ := y
            rw [hx] at hm
            obtain ⟨mv, rfl, ht⟩ := hm
            refine ⟨m, r, true, mv, rfl, ht, fun e' w' h' => by unfold MemV at h'; rw [hx] at h'; exact h', ?_⟩
            unfold memL at hx
            split at hx
            · split at hx
              · cases hx
              · cases hx; rw [List.length_take]; omega
            · cases hx
        subst he
        obtain ⟨pm, cm, rfl⟩ := hmv.slice
        have TM := Lib.hid hmv
        have NM := Lib.hid hmr
        clear hm hmv hmr
        go_wp2_with fail
        refine (rmem_any _ l (by omega) _ (TB.out.keep KC.out)).mono ?_
        rintro e wd ⟨hn, kd⟩
        obtain ⟨nv, rfl, hnv⟩ := NM.out _ _ hn
        obtain ⟨pn, cn, rfl⟩ := hnv.slice
        have TN := Lib.hid hnv
        have TM2 := Lib.hid (TM.out.keep kd)
        have KD := Lib.hid (KC.out.trans kd)
        clear kd hn hnv q1 q2 g1 g2
        have u1 : (rb != rb) = false := by cases rb <;> rfl
        have u2 : (rv != rv) = false := by simp
        have u3 : (mb != mb) = false := by cases mb <;> rfl
        have u4 : (mr != mr) = false := by simp
        go_wp2_with fail
        refine (sameToks _ _ m (by omega) _ TM2.out TN.out).mono ?_
        rintro e we ⟨rfl, ke⟩
        have KF := Lib.hid (KD.out.trans ke)
        clear ke
        go_wp2_with fail
        go_roundw
        case rel => exact ⟨k + 1, h, by go_num, KF.out⟩
        case measure => simp [intOf]; omega
      · obtain rfl : k = args.length := by omega
        go_wp2_with fail
        go_ret
        exact ⟨rfl, KE.out.trans HK.out⟩
end Go.Proofs.YtcdepfdfemmfhaaGreatDoor
