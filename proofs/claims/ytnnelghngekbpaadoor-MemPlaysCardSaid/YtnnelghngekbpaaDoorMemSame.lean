/- hasplaw4.Same: of a memory and the document's that hold the same: true. -/
import Derived.Test.YtnnelghngekbpaaDoorMemApartWalk
import Derived.WalkSpells
import Derived.Deep.AppendLies
namespace Go.Proofs.YtnnelghngekbpaaDoor
set_option linter.unusedVariables false
set_option linter.unusedSimpArgs false
open Go.RowKit
/-- Bytes that lie there, as a text. -/
theorem conv_at (l : List Int) (c off n cap : Nat) (hn : n = l.length) (W : World) (h : ∀ i, i < l.length → W.cell? ⟨c, off + i, none⟩ = some (.int .u8 (l.getD i 0))) :
    (convert 35 9 (.slice (some ⟨c, off, none⟩) n cap)).run Tryd.prog W = .ok (.string (strOfNums l)) W := by
  subst hn
  rw [run_convert_bytes_arg W 35 5 Tryd.underlying35 Tryd.underlying5 c off l.length cap l rfl h 9 Tryd.underlying9]
theorem own_any {w : World} {base n : Nat} {v : Value} {l : List Int} (h : w.ownsRow base 3 1 v n (l.map (Value.int .i64))) (hn : l.length = n) :
    ∃ ad cap, v = .slice ad n cap ∧ ∀ i, i < n → ∃ g, ad = some ⟨g, 0, none⟩ ∧ w.cell? ⟨g, i, none⟩ = some (.int .i64 (l.getD i 0)) := by
  rcases Nat.eq_zero_or_pos n with h0 | hp
  · obtain ⟨_, h | ⟨g', cap', cur, hv, _⟩⟩ := h
    · exact ⟨none, 0, by rw [h.1, h0], fun i hi => by omega⟩
    · exact ⟨_, cap', hv, fun i hi => by omega⟩
  · obtain ⟨g, cap, hv, _, _, _, _, hc⟩ := own_ints h hn hp
    exact ⟨_, cap, hv, fun i hi => ⟨g, rfl, hc i hi⟩⟩
set_option maxRecDepth 100000 in
set_option maxHeartbeats 2000000 in
theorem same_any {w : World} {m p gb gt cb ct : Nat} {O : Nat → Prop} {bs : List Int} {ts : List Bool} (hD : DMem w m O bs ts) (hR : RMem w p gb gt cb ct bs ts) (hpos : 0 < bs.length) :
    Calls Tryd.prog 24 #[.pointer (some ⟨m, 0, none⟩), .pointer (some ⟨p, 0, none⟩)] w fun e w' => e = .returned (.bool true) ∧ Keep w w' := by
  have HD := Lib.hid hD
  have HR := Lib.hid hR
  obtain ⟨L, hL⟩ : ∃ L, L = bs.length := ⟨_, rfl⟩
  have HL := Lib.hid hL
  have BP := hR.box
  rw [← hL] at BP hpos
  have lp := BP.lt
  have hM := hR.most
  rw [← hL] at hM
  have l0 : (0 : Int) ≤ (L : Int) := Int.natCast_nonneg _
  have l1 : (L : Int) ≤ 65536 := by omega
  clear hD hR hL
  have p0 := BP.cells
  go_enter Tryd.func24, Tryd.ntmps24
  go_wp2_with fail
  have CSz := Lib.hid (fun W' (k : Keep w W') => dsize_any (HD.out.keep k))
  rw [← HL.out] at CSz
  unfold ptrV at CSz
  refine region_grows (Keep _) (by kernel_rfl) (by kernel_rfl) (Keep.refl _).drew ?_
  repeat (first
    | (apply text_pass (by rfl)
       go_simp)
    | (apply text_step (by rfl)
       · intro W hW
         have c1 := (BP.keep hW).cells
         go_simp
         first
          | exact ⟨rfl, hW⟩
          | (apply yes_enter; go_at_call 28; with_reducible refine (CSz.out _ hW).mono ?_; rintro e w' ⟨rfl, hk⟩; exact ⟨rfl, hW.trans hk⟩)
       go_simp))
  apply text_end
  intro W1 hW1
  have K1 := Lib.hid hW1
  have p1 := (BP.keep hW1).cells
  have lp1 := (BP.keep hW1).lt
  clear p0 hW1 CSz
  go_wp2_with fail
  refine (dload_any 0 (L : Int) (by unfold In64; omega) (by unfold In64; omega) (HD.out.keep K1.out)).mono ?_
  rintro e w2 ⟨hk2, s, u, rfl, h⟩
  obtain ⟨rfl, hl⟩ : u = .nilIface ∧ Lies w2 s bs _ := by
    rcases h with ⟨hn, _⟩ | ⟨_, h1, h2⟩
    · exfalso
      rw [← HL.out] at hn
      simp [reachB] at hn
    · have e : (bs.drop (0 : Int).toNat).take (L : Int).toNat = bs := by
        have := HL.out
        simp [this]
      rw [e] at h2
      exact ⟨h1, h2⟩
  clear h
  obtain ⟨ad, cs, rfl, -, -, hl⟩ := hl
  obtain ⟨sb, so, rfl, -, -, -⟩ := hl 0 (by rw [← HL.out]; exact hpos)
  have HS2 : Hid (∀ i, i < bs.length → w2.cell? ⟨sb, so + i, none⟩ = some (.int .u8 (bs.getD i 0))) := Lib.hid (fun i hi => by
    obtain ⟨b', o', e', _, _, hc⟩ := hl i hi
    simp only [Option.some.injEq, Addr.mk.injEq, and_true] at e'
    obtain ⟨rfl, rfl⟩ := e'
    exact hc)
  have K2 := Lib.hid (K1.out.trans hk2)
  clear hl hk2 p1 lp1
  rw [← HL.out]
  go_wp2_with fail
  refine (dtags_any (HD.out.keep K2.out)).mono ?_
  rintro e w3 ⟨v3, rfl, ho3, hk3⟩
  obtain ⟨T, hT⟩ : ∃ T, T = tagsAt ts ts.length := ⟨_, rfl⟩
  rw [← hT] at ho3
  obtain ⟨N, hN⟩ : ∃ N, N = T.length := ⟨_, rfl⟩
  obtain ⟨ad3, cap3, rfl, h3⟩ := own_any ho3 rfl
  have K3 := Lib.hid (K2.out.trans hk3)
  have HS3 : Hid (∀ i, i < bs.length → w3.cell? ⟨sb, so + i, none⟩ = some (.int .u8 (bs.getD i 0))) := Lib.hid (fun i hi => hk3.cellOf (HS2.out i hi))
  have H3 := Lib.hid h3
  have HTe := Lib.hid hT
  have HN := Lib.hid hN
  rw [← hN]
  have nle : N ≤ 4096 := by
    have h1 := tagsAt_length ts ts.length
    have h2 := HR.out.len
    have h3 := HL.out
    rw [hN, hT]
    omega
  clear ho3 hk3 h3 hT hN HS2
  go_wp2_with fail
  refine (rtags_any p gb gt cb ct bs ts _ (HR.out.keep K3.out)).mono ?_
  rintro e w4 ⟨v4, rfl, ho4, hk4⟩
  rw [← HTe.out] at ho4
  obtain ⟨ad4, cap4, rfl, h4⟩ := own_any ho4 rfl
  have K4 := Lib.hid (K3.out.trans hk4)
  have HS4 : Hid (∀ i, i < bs.length → w4.cell? ⟨sb, so + i, none⟩ = some (.int .u8 (bs.getD i 0))) := Lib.hid (fun i hi => hk4.cellOf (HS3.out i hi))
  have H34 : Hid (∀ i, i < T.length → ∃ g, ad3 = some ⟨g, 0, none⟩ ∧ w4.cell? ⟨g, i, none⟩ = some (.int .i64 (T.getD i 0))) := Lib.hid (fun i hi => by
    obtain ⟨g, e, hc⟩ := H3.out i hi
    exact ⟨g, e, hk4.cellOf hc⟩)
  have H4 := Lib.hid h4
  rw [← HN.out]
  clear ho4 hk4 h4 HS3 H3
  go_wp2_with fail
  obtain ⟨S, hS⟩ : ∃ S, S = strOfNums bs := ⟨_, rfl⟩
  have CV1 := Lib.hid (show ∀ W, Keep w4 W → (convert 35 9 (.slice (some ⟨sb, so, none⟩) L cs)).run Tryd.prog W = .ok (.string S) W from fun W k => by rw [hS]; exact conv_at bs sb so L cs HL.out W (fun i hi => k.cellOf (HS4.out i hi)))
  have CV2 := Lib.hid (show ∀ W, Keep w4 W → (convert 35 9 (.slice (some ⟨gb, 0, none⟩) L cb)).run Tryd.prog W = .ok (.string S) W from fun W k => by
    rw [hS]
    exact conv_at bs gb 0 L cb HL.out W (fun i hi => by
      rw [Nat.zero_add, ((HR.out.keep K4.out).keep k).bytes.cells i]
      simp [u8s, List.getD_eq_getElem?_getD, List.getElem?_eq_getElem hi]))
  have BP4 := BP.keep K4.out
  clear hS
  refine region_grows (Keep _) (by kernel_rfl) (by kernel_rfl) (Keep.refl _).drew ?_
  repeat (first
    | (apply text_pass (by rfl)
       go_simp)
    | (apply text_step (by rfl)
       · intro W hW
         have c1 := (BP4.keep hW).cells
         have e1 := CV1.out W hW
         have e2 := CV2.out W hW
         go_simp
         exact ⟨rfl, hW⟩
       go_simp))
  apply text_end
  intro W5 hW5
  have K5 := Lib.hid (K4.out.trans hW5)
  have G3 : Hid (∀ i, i < T.length → ∃ g, ad3 = some ⟨g, 0, none⟩ ∧ W5.cell? ⟨g, i, none⟩ = some (.int .i64 (T.getD i 0))) := Lib.hid (fun i hi => by
    obtain ⟨g, e, hc⟩ := H34.out i hi
    exact ⟨g, e, hW5.cellOf hc⟩)
  have G4 : Hid (∀ i, i < T.length → ∃ g, ad4 = some ⟨g, 0, none⟩ ∧ W5.cell? ⟨g, i, none⟩ = some (.int .i64 (T.getD i 0))) := Lib.hid (fun i hi => by
    obtain ⟨g, e, hc⟩ := H4.out i hi
    exact ⟨g, e, hW5.cellOf hc⟩)
  clear hW5 CV1 CV2 H34 H4 HS4
  go_wp2_with fail
  go_loopw [9] (fun i wr => ∃ k : Nat, k ≤ N ∧ i = .int .i64 (k : Int) ∧ Keep W5 wr) (fun i _ => N - (intOf i).toNat)
  case atStart => exact ⟨0, Nat.zero_le _, rfl, Keep.refl _⟩
  case round =>
    obtain ⟨k, hk, rfl, hK⟩ := hrel
    have k0 : (0 : Int) ≤ (k : Int) := Int.natCast_nonneg _
    by_cases h : k < N
    · have hkN : (k : Int) < (N : Int) := by omega
      obtain ⟨g3, rfl, hc3⟩ := G3.out k (by rw [← HN.out]; exact h)
      obtain ⟨g4, rfl, hc4⟩ := G4.out k (by rw [← HN.out]; exact h)
      have hc3' := hK.cellOf hc3
      have hc4' := hK.cellOf hc4
      obtain ⟨z, hz⟩ : ∃ z, z = T.getD k 0 := ⟨_, rfl⟩
      rw [← hz] at hc3' hc4'
      have HK := Lib.hid hK
      clear hc3 hc4 hz hK
      go_wp2_with fail
      refine region_grows (Keep _) (by kernel_rfl) (by kernel_rfl) (Keep.refl _).drew ?_
      repeat (first
        | (apply text_pass (by rfl)
           go_simp)
        | (apply text_step (by rfl)
           · intro W hW
             have c3 := hW.cellOf hc3'
             have c4 := hW.cellOf hc4'
             go_simp
             exact ⟨rfl, hW⟩
           go_simp))
      apply text_end
      intro W hW
      have HKW := Lib.hid (HK.out.trans hW)
      clear hW
      go_wp2_with fail
      exact ⟨⟨k + 1, h, by simp, HKW.out⟩, by simp [intOf]; omega⟩
    · obtain rfl : k = N := by omega
      go_wp2_with fail
      go_ret
      exact ⟨rfl, K5.out.trans hK⟩
end Go.Proofs.YtnnelghngekbpaaDoor
