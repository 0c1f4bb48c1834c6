/- The program's number, perm. -/
import Derived.Test.YteddflbidafebaaGreatDoorManPWrd
namespace Go.Proofs.YteddflbidafebaaGreatDoor
set_option linter.unusedVariables false
set_option linter.unusedSimpArgs false
open Go.RowKit Go.Shelf
theorem infoSet : (Tryz.prog.info? (Tryz.lays160_ren.t 116)).map (fun i => (i.zero, i.size)) = some (some (.agg (Array.replicate 256 (.bool false))), 256) := by kernel_rfl
theorem mtrim_any (l : List UInt8) (hl : l.length ≤ 5000) (w : World) : Calls Tryz.prog 58 #[.string (bsL l), .string ⟨#[48, 49, 50, 51, 52, 53, 54, 55, 56, 57]⟩] w fun e w' => e = .returned (.string (bsL (Lib.trimS l digs10))) ∧ Keep w w' := by
  refine (Any.strings_Trim_laid (P := Tryz.prog) (ρ := Tryz.lays160_ren) Tryz.lays160 infoSet (bsL l) ⟨#[48, 49, 50, 51, 52, 53, 54, 55, 56, 57]⟩ w (by rw [bs_size]; omega) (by decide) (ascii_of_all (by decide +kernel))).mono ?_
  rintro e w' ⟨rfl, hk⟩
  exact ⟨rfl, hk⟩
theorem mparseU_any (l : List UInt8) (hl : l.length ≤ 5000) (h : ¬ (l = [] ∨ (l.head? = some 48 ∧ 1 < l.length) ∨ (l.all fun c => lxDigit c.toNat) = false)) (w : World) (hR : RngV w) :
    (∃ u : Nat, numD l = .ok u ∧ u < 4294967296 ∧ Calls Tryz.prog 60 #[.string (bsL l), .int .i64 10, .int .i64 32] w fun e w' => e = .returned (.tuple #[.int .u64 (u : Int), .nilIface]) ∧ Keep w w') ∨
    (numD l = .error 14 ∧ Calls Tryz.prog 60 #[.string (bsL l), .int .i64 10, .int .i64 32] w fun e w' => (∃ N, e = .returned (.tuple #[.int .u64 4294967295, .iface 168 (.pointer (some ⟨N, 0, none⟩))])) ∧ Keep w w') := by
  rcases parse_numD h with ⟨u, h1, h2, h3⟩ | ⟨h1, h2⟩
  · refine .inl ⟨u, h2, h3, ?_⟩
    refine (Tryz.strconv_ParseUint_10_at32_ok (bsL l) (by rw [bs_size]; omega) u h1 w).mono ?_
    rintro e w' ⟨rfl, hw | hw⟩
    · subst hw; exact ⟨rfl, Keep.refl _⟩
    · subst hw; exact ⟨rfl, Lib.bytesWorld_below _ _ _⟩
  · refine .inr ⟨h2, ?_⟩
    obtain ⟨ev, he1, he2⟩ := hR
    refine (Tryz.strconv_ParseUint_10_at32_range (bsL l) (by rw [bs_size]; omega) h1 ev w he1 he2).mono ?_
    rintro e w' ⟨N, rfl, _, _, hk⟩
    exact ⟨⟨N, rfl⟩, hk⟩
/-- What number answers. -/
def numV (l : List UInt8) : Int × Int := match numD l with
  | .ok n => ((n : Int), 0)
  | .error e => (0, e)
theorem numV_err {l : List UInt8} (h : l = [] ∨ (l.head? = some 48 ∧ 1 < l.length) ∨ (l.all fun c => lxDigit c.toNat) = false) : numV l = (0, 11) := by
  unfold numV numD
  rw [if_pos h]
theorem bs_empty {l : List UInt8} (h : l ≠ []) : (bsL l).toList.isEmpty = false ∧ ¬ (bsL l).toList = [] := by
  have e : (bsL l).toList = l := by rw [ByteArray.toList_eq, bs_data]
  rw [e]
  cases l with
  | nil => exact absurd rfl h
  | cons a r => exact ⟨rfl, List.cons_ne_nil _ _⟩
theorem pre_zero (l : List UInt8) : Lib.hasPrefix l [48] = decide (l.head? = some 48) := by
  unfold Lib.hasPrefix
  cases l with
  | nil => rfl
  | cons a r =>
    simp [List.isPrefixOf]
    by_cases h : a = 48
    · simp [h]
    · rw [decide_eq_false h]; simp; exact fun e => h e.symm
set_option maxHeartbeats 4000000 in
set_option maxRecDepth 100000 in
theorem mnumber_any (l : List UInt8) (hl : l.length ≤ 5000) (w : World) (hR : RngV w) :
    Calls Tryz.prog 34 #[.string (bsL l)] w fun e w' => e = .returned (.tuple #[.int .u32 (numV l).1, .int .i64 (numV l).2]) ∧ Keep w w' := by
  have CT := Lib.hid (mtrim_any l hl w)
  have CP := Lib.hid (fun W => (Tryz.strings_HasPrefix (bsL l) ⟨#[48]⟩ W).mono fun e w' (h : _ ∧ w' = W) => And.intro h.1 h.2.symm)
  rw [bs_data, show (⟨#[48]⟩ : ByteArray).data.toList = [48] from rfl, pre_zero] at CP
  by_cases hd : (l.all fun c => lxDigit c.toNat) = false
  · have ht : Lib.trimS l digs10 ≠ [] := fun e => by rw [(trim_digs l).1 e] at hd; cases hd
    obtain ⟨q1, q2⟩ := bs_empty ht
    rw [numV_err (.inr (.inr hd))]
    obtain ⟨tb, htb⟩ : ∃ tb, bsL (Lib.trimS l digs10) = tb := ⟨_, rfl⟩
    rw [htb] at CT q1 q2
    obtain ⟨s, hs⟩ : ∃ s, bsL l = s := ⟨_, rfl⟩
    rw [hs] at CT CP ⊢
    clear hd ht htb hs hR
    go_enter Tryz.func34, Tryz.ntmps34
    go_wp2_with fail
    refine CT.out.mono ?_
    rintro e w1 ⟨rfl, hk⟩
    have HK := Lib.hid hk
    clear hk
    go_wp2_with fail
    go_ret2
    exact ⟨rfl, HK.out⟩
  have hd' : (l.all fun c => lxDigit c.toNat) = true := by simpa using hd
  rw [(trim_digs l).2 hd', show bsL [] = ⟨#[]⟩ from rfl] at CT
  by_cases h0 : l = []
  · subst h0
    rw [numV_err (.inl rfl)]
    rw [show bsL [] = ⟨#[]⟩ from rfl] at CT CP ⊢
    clear hd hd' hR
    go_enter Tryz.func34, Tryz.ntmps34
    go_wp2_with fail
    refine CT.out.mono ?_
    rintro e w1 ⟨rfl, hk⟩
    have HK := Lib.hid hk
    clear hk
    go_wp2_with ((with_reducible refine (CP.out _).mono ?_); rintro e w' ⟨rfl, rfl⟩)
    go_ret2
    exact ⟨rfl, HK.out⟩
  have GO : ∀ (s : ByteArray), bsL l = s → (∀ W, Calls Tryz.prog 59 #[.string s, .string ⟨#[48]⟩] W fun e w' => e = .returned (.bool (decide (l.head? = some 48))) ∧ W = w') → True := fun _ _ _ => trivial
  clear GO
  by_cases h8 : l.head? = some 48
  · rw [decide_eq_true h8] at CP
    by_cases h1 : 1 < l.length
    · rw [numV_err (.inr (.inl ⟨h8, h1⟩))]
      have hne : ¬ (bsL l).toList = [48] := by
        rw [ByteArray.toList_eq, bs_data]
        intro e; rw [e] at h1; simp at h1
      have hne2 : ((bsL l).toList == [48]) = false := beq_eq_false_iff_ne.2 hne
      obtain ⟨q1, q2⟩ := bs_empty h0
      obtain ⟨s, hs⟩ : ∃ s, bsL l = s := ⟨_, rfl⟩
      rw [hs] at CT CP hne hne2 q1 q2 ⊢
      clear hd hd' hs hR h8 h1
      go_enter Tryz.func34, Tryz.ntmps34
      go_wp2_with fail
      refine CT.out.mono ?_
      rintro e w1 ⟨rfl, hk⟩
      have HK := Lib.hid hk
      clear hk
      go_wp2_with ((with_reducible refine (CP.out _).mono ?_); rintro e w' ⟨rfl, rfl⟩)
      go_ret2
      exact ⟨rfl, HK.out⟩
    · obtain rfl : l = [48] := by
        cases l with
        | nil => exact absurd rfl h0
        | cons a r =>
          simp only [List.head?_cons, Option.some.injEq] at h8
          subst h8
          cases r with
          | nil => rfl
          | cons b r2 => simp at h1
      have hok : ¬ (([48] : List UInt8) = [] ∨ (([48] : List UInt8).head? = some 48 ∧ 1 < ([48] : List UInt8).length) ∨ (([48] : List UInt8).all fun c => lxDigit c.toNat) = false) := by decide +kernel
      have CU := Lib.hid (fun W (k : Keep w W) => mparseU_any [48] (by decide) hok W (hR.keep k))
      have EV : Hid (numV [48] = (0, 0)) := Lib.hid (by decide +kernel)
      rw [EV.out]
      rw [show bsL [48] = ⟨#[48]⟩ from rfl] at CT CP CU ⊢
      clear hd hd' hR h8 h1 h0 hok
      go_enter Tryz.func34, Tryz.ntmps34
      go_wp2_with fail
      refine CT.out.mono ?_
      rintro e w1 ⟨rfl, hk⟩
      have CV := Lib.hid (CU.out w1 hk)
      have HK := Lib.hid hk
      clear hk CU
      go_wp2_with ((with_reducible refine (CP.out _).mono ?_); rintro e w' ⟨rfl, rfl⟩)
      rcases CV.out with ⟨u, hu, hu2, C⟩ | ⟨hu, C⟩
      · have : numD [48] = .ok 0 := by kernel_rfl
        rw [this] at hu
        cases hu
        have HC := Lib.hid C
        clear C
        refine HC.out.mono ?_
        rintro e w2 ⟨rfl, hk⟩
        have HK2 := Lib.hid (HK.out.trans hk)
        clear hk HC CV
        go_wp2_with fail
        go_ret2
        exact ⟨rfl, HK2.out⟩
      · have : numD [48] = .ok 0 := by kernel_rfl
        rw [this] at hu; cases hu
  · rw [decide_eq_false h8] at CP
    have hok : ¬ (l = [] ∨ (l.head? = some 48 ∧ 1 < l.length) ∨ (l.all fun c => lxDigit c.toNat) = false) := by
      rintro (h | ⟨h, _⟩ | h)
      · exact h0 h
      · exact h8 h
      · rw [hd'] at h; cases h
    have CU := Lib.hid (fun W (k : Keep w W) => mparseU_any l hl hok W (hR.keep k))
    obtain ⟨q1, q2⟩ := bs_empty h0
    obtain ⟨nv, hnv⟩ : ∃ nv, numV l = nv := ⟨_, rfl⟩
    rw [hnv]
    have HNV := Lib.hid hnv
    obtain ⟨s, hs⟩ : ∃ s, bsL l = s := ⟨_, rfl⟩
    rw [hs] at CT CP CU q1 q2 ⊢
    clear hd hd' hs hR h8 h0 hok hnv hl
    go_enter Tryz.func34, Tryz.ntmps34
    go_wp2_with fail
    refine CT.out.mono ?_
    rintro e w1 ⟨rfl, hk⟩
    have CV := Lib.hid (CU.out w1 hk)
    have HK := Lib.hid hk
    clear hk CU
    go_wp2_with ((with_reducible refine (CP.out _).mono ?_); rintro e w' ⟨rfl, rfl⟩)
    rcases CV.out with ⟨u, hu, hu2, C⟩ | ⟨hu, C⟩
    · have wu : IntKind.u32.wrap (u : Int) = (u : Int) := by rw [IntKind.wrap_u32]; omega
      have HC := Lib.hid C
      have HE : Hid (nv = ((u : Int), 0)) := Lib.hid (by rw [← HNV.out]; unfold numV; rw [hu])
      clear C hu hu2
      refine HC.out.mono ?_
      rintro e w2 ⟨rfl, hk⟩
      have HK2 := Lib.hid (HK.out.trans hk)
      clear hk HC CV
      go_wp2_with fail
      go_ret2
      rw [HE.out]
      exact ⟨rfl, HK2.out⟩
    · have HC := Lib.hid C
      have HE : Hid (nv = (0, 14)) := Lib.hid (by rw [← HNV.out]; unfold numV; rw [hu])
      clear C hu
      refine HC.out.mono ?_
      rintro e w2 ⟨⟨N, rfl⟩, hk⟩
      have HK2 := Lib.hid (HK.out.trans hk)
      clear hk HC CV
      go_wp2_with fail
      go_ret2
      rw [HE.out]
      exact ⟨rfl, HK2.out⟩
/-- What perm answers. -/
def permV (l : List UInt8) : Int × Int := match permL l with
  | some p => (p, 0)
  | none => (0, 11)
set_option maxHeartbeats 4000000 in
set_option maxRecDepth 100000 in
theorem mperm_any (l : List UInt8) (w : World) : Calls Tryz.prog 35 #[.string (bsL l)] w fun e w' => e = .returned (.tuple #[.int .u16 (permV l).1, .int .i64 (permV l).2]) ∧ Keep w w' := by
  have C1 := Lib.hid (fun W => mpermWord_any 1 W)
  have C2 := Lib.hid (fun W => mpermWord_any 2 W)
  have C3 := Lib.hid (fun W => mpermWord_any 3 W)
  rw [show permS 1 = ⟨#[114]⟩ from rfl] at C1
  rw [show permS 2 = ⟨#[119]⟩ from rfl] at C2
  rw [show permS 3 = ⟨#[114, 119]⟩ from rfl] at C3
  by_cases h1 : l = [114]
  · subst h1
    rw [show permV [114] = (1, 0) from rfl, show bsL [114] = ⟨#[114]⟩ from rfl]
    go_enter Tryz.func35, Tryz.ntmps35
    go_wp2_with fail
    refine wp_loop_rounds 4 ?_
    rw [rounds_succ]
    go_wp2_with ((with_reducible refine (C1.out _).mono ?_); rintro e w' ⟨rfl, rfl⟩)
    go_ret2
    exact ⟨rfl, (Keep.refl _).alloc _⟩
  by_cases h2 : l = [119]
  · subst h2
    rw [show permV [119] = (2, 0) from rfl, show bsL [119] = ⟨#[119]⟩ from rfl]
    go_enter Tryz.func35, Tryz.ntmps35
    go_wp2_with fail
    refine wp_loop_rounds 4 ?_
    rw [rounds_succ]
    go_wp2_with ((with_reducible refine (C1.out _).mono ?_); rintro e w' ⟨rfl, rfl⟩)
    rw [rounds_succ]
    go_wp2_with ((with_reducible refine (C2.out _).mono ?_); rintro e w' ⟨rfl, rfl⟩)
    go_ret2
    exact ⟨rfl, (Keep.refl _).alloc _⟩
  by_cases h3 : l = [114, 119]
  · subst h3
    rw [show permV [114, 119] = (3, 0) from rfl, show bsL [114, 119] = ⟨#[114, 119]⟩ from rfl]
    go_enter Tryz.func35, Tryz.ntmps35
    go_wp2_with fail
    refine wp_loop_rounds 4 ?_
    rw [rounds_succ]
    go_wp2_with ((with_reducible refine (C1.out _).mono ?_); rintro e w' ⟨rfl, rfl⟩)
    rw [rounds_succ]
    go_wp2_with ((with_reducible refine (C2.out _).mono ?_); rintro e w' ⟨rfl, rfl⟩)
    rw [rounds_succ]
    go_wp2_with ((with_reducible refine (C3.out _).mono ?_); rintro e w' ⟨rfl, rfl⟩)
    go_ret2
    exact ⟨rfl, (Keep.refl _).alloc _⟩
  have e : permV l = (0, 11) := by
    unfold permV permL
    rw [if_neg h1, if_neg h2, if_neg h3]
  rw [e]
  have hE : ∀ (m : List UInt8), l ≠ m → (m == (bsL l).toList) = false ∧ ((bsL l).toList == m) = false ∧ ¬ m = (bsL l).toList ∧ ¬ (bsL l).toList = m := fun m hm => by
    rw [ByteArray.toList_eq, bs_data]
    exact ⟨beq_eq_false_iff_ne.2 (Ne.symm hm), beq_eq_false_iff_ne.2 hm, Ne.symm hm, hm⟩
  obtain ⟨a1, a2, a3, a4⟩ := hE _ h1
  obtain ⟨b1, b2, b3, b4⟩ := hE _ h2
  obtain ⟨c1, c2, c3, c4⟩ := hE _ h3
  obtain ⟨s, hs⟩ : ∃ s, bsL l = s := ⟨_, rfl⟩
  rw [hs] at a1 a2 a3 a4 b1 b2 b3 b4 c1 c2 c3 c4 ⊢
  clear hs hE e h1 h2 h3
  go_enter Tryz.func35, Tryz.ntmps35
  go_wp2_with fail
  refine wp_loop_rounds 4 ?_
  rw [rounds_succ]
  go_wp2_with ((with_reducible refine (C1.out _).mono ?_); rintro e w' ⟨rfl, rfl⟩)
  rw [rounds_succ]
  go_wp2_with ((with_reducible refine (C2.out _).mono ?_); rintro e w' ⟨rfl, rfl⟩)
  rw [rounds_succ]
  go_wp2_with ((with_reducible refine (C3.out _).mono ?_); rintro e w' ⟨rfl, rfl⟩)
  rw [rounds_succ]
  go_wp2_with fail
  go_ret2
  exact ⟨rfl, (Keep.refl _).alloc _⟩
end Go.Proofs.YteddflbidafebaaGreatDoor
