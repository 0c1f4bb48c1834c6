/- MemSame, MemPlaysU: hasplaw4.Same: of a memory and the document's that hold the same: true. -/
import Derived.Test.YtgfoohiaioojoaaDoorGDevC
import Derived.WalkSpells
import Derived.Deep.AppendLies
import Derived.Test.YtgfoohiaioojoaaDoorGMem
import Derived.Test.YtgfoohiaioojoaaDoorGCap
import Derived.Laws.StructEq
import Derived.Deep.OwnRows
/- hasplaw4.Same: of a memory and the document's that hold the same: true. -/
namespace Go.Proofs.YtgfoohiaioojoaaDoor
set_option linter.unusedVariables false
set_option linter.unusedSimpArgs false
open Go.RowKit
/-- Bytes that lie there, as a text. -/
theorem conv_at (l : List Int) (c off n cap : Nat) (hn : n = l.length) (W : World) (h : ∀ i, i < l.length → W.cell? ⟨c, off + i, none⟩ = some (.int .u8 (l.getD i 0))) :
    (convert 37 9 (.slice (some ⟨c, off, none⟩) n cap)).run Tryd.prog W = .ok (.string (strOfNums l)) W := by
  subst hn
  rw [run_convert_bytes_arg W 37 5 Tryd.underlying37 Tryd.underlying5 c off l.length cap l rfl h 9 Tryd.underlying9]
theorem own_any {w : World} {base n : Nat} {v : Value} {l : List Int} (h : w.ownsRow base 3 1 v n (l.map (Value.int .i64))) (hn : l.length = n) :
    ∃ ad cap, v = .slice ad n cap ∧ ∀ i, i < n → ∃ g, ad = some ⟨g, 0, none⟩ ∧ w.cell? ⟨g, i, none⟩ = some (.int .i64 (l.getD i 0)) := by
  rcases Nat.eq_zero_or_pos n with h0 | hp
  · obtain ⟨_, h | ⟨g', cap', cur, hv, _⟩⟩ := h
    · exact ⟨none, 0, by rw [h.1, h0], fun i hi => by omega⟩
    · exact ⟨_, cap', hv, fun i hi => by omega⟩
  · obtain ⟨g, cap, hv, _, _, _, _, hc⟩ := own_ints h hn hp
    exact ⟨_, cap, hv, fun i hi => ⟨g, rfl, hc i hi⟩⟩
set_option maxRecDepth 100000 in
set_option maxHeartbeats 2000000 in
theorem same_any {w : World} {m p gb gt cb ct : Nat} {O : Nat → Prop} {bs : List Int} {ts : List Bool} (hD : DMem w m O bs ts) (hR : RMem w p gb gt cb ct bs ts) (hpos : 0 < bs.length) :
    Calls Tryd.prog 21 #[.pointer (some ⟨m, 0, none⟩), .pointer (some ⟨p, 0, none⟩)] w fun e w' => e = .returned (.bool true) ∧ Keep w w' := by
  have HD := Lib.hid hD
  have HR := Lib.hid hR
  obtain ⟨L, hL⟩ : ∃ L, L = bs.length := ⟨_, rfl⟩
  have HL := Lib.hid hL
  have BP := hR.box
  rw [← hL] at BP hpos
  have lp := BP.lt
  have hM := hR.most
  rw [← hL] at hM
  have l0 : (0 : Int) ≤ (L : Int) := Int.natCast_nonneg _
  have l1 : (L : Int) ≤ 65536 := by omega
  clear hD hR hL
  have p0 := BP.cells
  go_enter Tryd.func21, Tryd.ntmps21
  go_wp2_with fail
  have CSz := Lib.hid (fun W' (k : Keep w W') => dsize_any (HD.out.keep k))
  rw [← HL.out] at CSz
  unfold ptrV at CSz
  refine region_grows (Keep _) (by kernel_rfl) (by kernel_rfl) (Keep.refl _).drew ?_
  repeat (first
    | (apply text_pass (by rfl)
       go_simp)
    | (apply text_step (by rfl)
       · intro W hW
         have c1 := (BP.keep hW).cells
         go_simp
         first
          | exact ⟨rfl, hW⟩
          | (apply yes_enter; go_at_call 59; with_reducible refine (CSz.out _ hW).mono ?_; rintro e w' ⟨rfl, hk⟩; exact ⟨rfl, hW.trans hk⟩)
       go_simp))
  apply text_end
  intro W1 hW1
  have K1 := Lib.hid hW1
  have p1 := (BP.keep hW1).cells
  have lp1 := (BP.keep hW1).lt
  clear p0 hW1 CSz
  go_wp2_with fail
  refine (dload_any 0 (L : Int) (by unfold In64; omega) (by unfold In64; omega) (HD.out.keep K1.out)).mono ?_
  rintro e w2 ⟨hk2, s, u, rfl, h⟩
  obtain ⟨rfl, hl⟩ : u = .nilIface ∧ Lies w2 s bs _ := by
    rcases h with ⟨hn, _⟩ | ⟨_, h1, h2⟩
    · exfalso
      rw [← HL.out] at hn
      simp [reachB] at hn
    · have e : (bs.drop (0 : Int).toNat).take (L : Int).toNat = bs := by
        have := HL.out
        simp [this]
      rw [e] at h2
      exact ⟨h1, h2⟩
  clear h
  obtain ⟨ad, cs, rfl, -, -, hl⟩ := hl
  obtain ⟨sb, so, rfl, -, -, -⟩ := hl 0 (by rw [← HL.out]; exact hpos)
  have HS2 : Hid (∀ i, i < bs.length → w2.cell? ⟨sb, so + i, none⟩ = some (.int .u8 (bs.getD i 0))) := Lib.hid (fun i hi => by
    obtain ⟨b', o', e', _, _, hc⟩ := hl i hi
    simp only [Option.some.injEq, Addr.mk.injEq, and_true] at e'
    obtain ⟨rfl, rfl⟩ := e'
    exact hc)
  have K2 := Lib.hid (K1.out.trans hk2)
  clear hl hk2 p1 lp1
  rw [← HL.out]
  go_wp2_with fail
  refine (dtags_any (HD.out.keep K2.out)).mono ?_
  rintro e w3 ⟨v3, rfl, ho3, hk3⟩
  obtain ⟨T, hT⟩ : ∃ T, T = tagsAt ts ts.length := ⟨_, rfl⟩
  rw [← hT] at ho3
  obtain ⟨N, hN⟩ : ∃ N, N = T.length := ⟨_, rfl⟩
  obtain ⟨ad3, cap3, rfl, h3⟩ := own_any ho3 rfl
  have K3 := Lib.hid (K2.out.trans hk3)
  have HS3 : Hid (∀ i, i < bs.length → w3.cell? ⟨sb, so + i, none⟩ = some (.int .u8 (bs.getD i 0))) := Lib.hid (fun i hi => hk3.cellOf (HS2.out i hi))
  have H3 := Lib.hid h3
  have HTe := Lib.hid hT
  have HN := Lib.hid hN
  rw [← hN]
  have nle : N ≤ 4096 := by
    have h1 := tagsAt_length ts ts.length
    have h2 := HR.out.len
    have h3 := HL.out
    rw [hN, hT]
    omega
  clear ho3 hk3 h3 hT hN HS2
  go_wp2_with fail
  refine (rtags_any p gb gt cb ct bs ts _ (HR.out.keep K3.out)).mono ?_
  rintro e w4 ⟨v4, rfl, ho4, hk4⟩
  rw [← HTe.out] at ho4
  obtain ⟨ad4, cap4, rfl, h4⟩ := own_any ho4 rfl
  have K4 := Lib.hid (K3.out.trans hk4)
  have HS4 : Hid (∀ i, i < bs.length → w4.cell? ⟨sb, so + i, none⟩ = some (.int .u8 (bs.getD i 0))) := Lib.hid (fun i hi => hk4.cellOf (HS3.out i hi))
  have H34 : Hid (∀ i, i < T.length → ∃ g, ad3 = some ⟨g, 0, none⟩ ∧ w4.cell? ⟨g, i, none⟩ = some (.int .i64 (T.getD i 0))) := Lib.hid (fun i hi => by
    obtain ⟨g, e, hc⟩ := H3.out i hi
    exact ⟨g, e, hk4.cellOf hc⟩)
  have H4 := Lib.hid h4
  rw [← HN.out]
  clear ho4 hk4 h4 HS3 H3
  go_wp2_with fail
  obtain ⟨S, hS⟩ : ∃ S, S = strOfNums bs := ⟨_, rfl⟩
  have CV1 := Lib.hid (show ∀ W, Keep w4 W → (convert 37 9 (.slice (some ⟨sb, so, none⟩) L cs)).run Tryd.prog W = .ok (.string S) W from fun W k => by rw [hS]; exact conv_at bs sb so L cs HL.out W (fun i hi => k.cellOf (HS4.out i hi)))
  have CV2 := Lib.hid (show ∀ W, Keep w4 W → (convert 37 9 (.slice (some ⟨gb, 0, none⟩) L cb)).run Tryd.prog W = .ok (.string S) W from fun W k => by
    rw [hS]
    exact conv_at bs gb 0 L cb HL.out W (fun i hi => by
      rw [Nat.zero_add, ((HR.out.keep K4.out).keep k).bytes.cells i]
      simp [u8s, List.getD_eq_getElem?_getD, List.getElem?_eq_getElem hi]))
  have BP4 := BP.keep K4.out
  clear hS
  refine region_grows (Keep _) (by kernel_rfl) (by kernel_rfl) (Keep.refl _).drew ?_
  repeat (first
    | (apply text_pass (by rfl)
       go_simp)
    | (apply text_step (by rfl)
       · intro W hW
         have c1 := (BP4.keep hW).cells
         have e1 := CV1.out W hW
         have e2 := CV2.out W hW
         go_simp
         exact ⟨rfl, hW⟩
       go_simp))
  apply text_end
  intro W5 hW5
  have K5 := Lib.hid (K4.out.trans hW5)
  have G3 : Hid (∀ i, i < T.length → ∃ g, ad3 = some ⟨g, 0, none⟩ ∧ W5.cell? ⟨g, i, none⟩ = some (.int .i64 (T.getD i 0))) := Lib.hid (fun i hi => by
    obtain ⟨g, e, hc⟩ := H34.out i hi
    exact ⟨g, e, hW5.cellOf hc⟩)
  have G4 : Hid (∀ i, i < T.length → ∃ g, ad4 = some ⟨g, 0, none⟩ ∧ W5.cell? ⟨g, i, none⟩ = some (.int .i64 (T.getD i 0))) := Lib.hid (fun i hi => by
    obtain ⟨g, e, hc⟩ := H4.out i hi
    exact ⟨g, e, hW5.cellOf hc⟩)
  clear hW5 CV1 CV2 H34 H4 HS4
  go_wp2_with fail
  go_loopw [9] (fun i wr => ∃ k : Nat, k ≤ N ∧ i = .int .i64 (k : Int) ∧ Keep W5 wr) (fun i _ => N - (intOf i).toNat)
  case atStart => exact ⟨0, Nat.zero_le _, rfl, Keep.refl _⟩
  case round =>
    obtain ⟨k, hk, rfl, hK⟩ := hrel
    have k0 : (0 : Int) ≤ (k : Int) := Int.natCast_nonneg _
    by_cases h : k < N
    · have hkN : (k : Int) < (N : Int) := by omega
      obtain ⟨g3, rfl, hc3⟩ := G3.out k (by rw [← HN.out]; exact h)
      obtain ⟨g4, rfl, hc4⟩ := G4.out k (by rw [← HN.out]; exact h)
      have hc3' := hK.cellOf hc3
      have hc4' := hK.cellOf hc4
      obtain ⟨z, hz⟩ : ∃ z, z = T.getD k 0 := ⟨_, rfl⟩
      rw [← hz] at hc3' hc4'
      have HK := Lib.hid hK
      clear hc3 hc4 hz hK
      go_wp2_with fail
      refine region_grows (Keep _) (by kernel_rfl) (by kernel_rfl) (Keep.refl _).drew ?_
      repeat (first
        | (apply text_pass (by rfl)
           go_simp)
        | (apply text_step (by rfl)
           · intro W hW
             have c3 := hW.cellOf hc3'
             have c4 := hW.cellOf hc4'
             go_simp
             exact ⟨rfl, hW⟩
           go_simp))
      apply text_end
      intro W hW
      have HKW := Lib.hid (HK.out.trans hW)
      clear hW
      go_wp2_with fail
      exact ⟨⟨k + 1, h, by simp, HKW.out⟩, by simp [intOf]; omega⟩
    · obtain rfl : k = N := by omega
      go_wp2_with fail
      go_ret
      exact ⟨rfl, K5.out.trans hK⟩
end Go.Proofs.YtgfoohiaioojoaaDoor

/- MemPlays: what each call does to both memories, in the same words. -/
namespace Go.Proofs.YtgfoohiaioojoaaDoor
set_option linter.unusedVariables false
set_option linter.unusedSimpArgs false
open Go.RowKit
def sizeOk (size : Int) : Bool := decide (16 ≤ size) && decide (size ≤ 65536) && decide (size % 16 = 0)
/-- Where a play stands: both memories hold the same, apart from each other and from what was there. -/
structure PInv (W w : World) (p gb gt N M dm : Nat) (O : Nat → Prop) (bs : List Int) (ts : List Bool) : Prop where
  d : DMem w dm O bs ts
  r : RMem w p gb gt N M bs ts
  len : bs.length = N
  own : ∀ z, O z → W.heap.size ≤ z ∧ z ≠ p ∧ z ≠ gb ∧ z ≠ gt
  bnd : W.heap.size ≤ p ∧ W.heap.size ≤ gb ∧ W.heap.size ≤ gt
  kp : Keep W w
theorem PInv.keep {W w w' : World} {p gb gt N M dm : Nat} {O : Nat → Prop} {bs : List Int} {ts : List Bool} (h : PInv W w p gb gt N M dm O bs ts) (k : Keep w w') : PInv W w' p gb gt N M dm O bs ts :=
  { h with d := h.d.keep k, r := h.r.keep k, kp := h.kp.trans k }
/-- What a Store answers and leaves. -/
def storeV (L : Nat) (a n : Int) : Value := if reachB a n L = true then okV else rangeV a
def storeB (bs : List Int) (a : Int) (xs : List Int) : List Int := if reachB a xs.length bs.length = true then putAt bs a.toNat xs else bs
def storeT (L : Nat) (ts : List Bool) (a : Int) (n : Nat) : List Bool := if reachB a n L = true then offAt ts a.toNat n else ts
theorem storeB_length (bs : List Int) (a : Int) (xs : List Int) : (storeB bs a xs).length = bs.length := by unfold storeB; split <;> simp [putAt_length]
theorem dstore_u {w : World} {m : Nat} {O : Nat → Prop} {bs : List Int} {ts : List Bool} (a : Int) (ha : In64 a) (v : Value) (xs : List Int) (hx : ∀ z ∈ xs, IsByte z) (h : DMem w m O bs ts) (hv : Lies w v xs O) :
    Calls Tryd.prog 40 #[.pointer (some ⟨m, 0, none⟩), .int .i64 a, v] w fun e w' => ∃ u, e = .returned u ∧ ErrV w' u (storeV bs.length a xs.length) ∧ DMem w' m O (storeB bs a xs) (storeT bs.length ts a xs.length) ∧ KeepBut O w w' := by
  refine (dstore_any a ha v xs hx h hv).mono ?_
  rintro e w' ⟨u, rfl, h1⟩
  refine ⟨u, rfl, ?_⟩
  unfold storeV storeB storeT
  rcases h1 with ⟨hr, h2, h3⟩ | ⟨hr, rfl, h2, h3⟩
  · rw [hr]; exact ⟨h2, h.keep h3, h3.but _⟩
  · rw [hr]; exact ⟨.isOk, h2, h3⟩
theorem rstore_u (p gb gt cb ct : Nat) (bs : List Int) (ts : List Bool) (a : Int) (ha : In64 a) (v : Value) (xs : List Int) (hx : ∀ z ∈ xs, IsByte z) (hl : xs.length ≤ 9223372036854775807) (w : World) (h : RMem w p gb gt cb ct bs ts) (hv : Lies w v xs (ownsM gb gt)) :
    Calls Tryd.prog 42 #[.pointer (some ⟨p, 0, none⟩), .int .i64 a, v] w fun e w' => e = .returned (storeV bs.length a xs.length) ∧ RMem w' p gb gt cb ct (storeB bs a xs) (storeT bs.length ts a xs.length) ∧ KeepBut (ownsM gb gt) w w' := by
  refine (rstore_any p gb gt cb ct bs ts a ha v xs hx hl w h hv).mono ?_
  rintro e w' h1
  unfold storeV storeB storeT
  rcases h1 with ⟨hr, rfl, h3⟩ | ⟨hr, rfl, h2, h3⟩
  · rw [hr]; exact ⟨rfl, h.keep h3, h3.but _⟩
  · rw [hr]; exact ⟨rfl, h2, h3⟩
def capAt (L : Nat) (a : Int) : Prop := reachB a 16 L = true ∧ a % 16 = 0
instance (L : Nat) (a : Int) : Decidable (capAt L a) := by unfold capAt; infer_instance
def scapB (bs : List Int) (a b' p' a' m' y' : Int) : List Int := if capAt bs.length a then putAt bs a.toNat (putL b' p' a' m' y') else bs
def scapT (L : Nat) (ts : List Bool) (a : Int) (t : Bool) : List Bool := if capAt L a then ts.set (a.toNat / 16) t else ts
theorem scapB_length (bs : List Int) (a b' p' a' m' y' : Int) : (scapB bs a b' p' a' m' y').length = bs.length := by unfold scapB; split <;> simp [putAt_length]
theorem granV_ok {L : Nat} {a : Int} (h : capAt L a) : granV L a = okV := by unfold granV; rw [if_pos h.1, if_pos h.2]
theorem dstoreCap_u {w : World} {m : Nat} {O : Nat → Prop} {bs : List Int} {ts : List Bool} (a : Int) (ha : In64 a) (t : Bool) (b' p' a' m' y' : Int) (hb : 0 ≤ b' ∧ b' ≤ 4294967295) (hp : 0 ≤ p' ∧ p' ≤ 4294967295) (haa : 0 ≤ a' ∧ a' ≤ 4294967295) (hmm : 0 ≤ m' ∧ m' ≤ 65535) (hy : 0 ≤ y' ∧ y' ≤ 65535) (h : DMem w m O bs ts) (hE : ErrT w) :
    Calls Tryd.prog 41 #[.pointer (some ⟨m, 0, none⟩), .int .i64 a, .agg #[.bool t, .int .u32 b', .int .u32 p', .int .u32 a', .int .u16 m', .int .u16 y']] w fun e w' => ∃ u, e = .returned u ∧ ErrV w' u (granV bs.length a) ∧ DMem w' m O (scapB bs a b' p' a' m' y') (scapT bs.length ts a t) ∧ KeepBut O w w' := by
  refine (dstoreCap_any a ha t b' p' a' m' y' hb hp haa hmm hy h hE).mono ?_
  rintro e w' ⟨u, rfl, h1⟩
  refine ⟨u, rfl, ?_⟩
  unfold scapB scapT
  rcases h1 with ⟨hr, h2, h3⟩ | ⟨hr, rfl, h2, h3⟩
  · rw [if_neg (show ¬ capAt bs.length a from hr), if_neg (show ¬ capAt bs.length a from hr)]; exact ⟨h2, h.keep h3, h3.but _⟩
  · rw [if_pos (show capAt bs.length a from hr), if_pos (show capAt bs.length a from hr), granV_ok hr]; exact ⟨.isOk, h2, h3⟩
theorem rstoreCap_u (p gb gt cb ct : Nat) (bs : List Int) (ts : List Bool) (a : Int) (ha : In64 a) (t : Bool) (b' p' a' m' y' : Int) (hb : 0 ≤ b' ∧ b' ≤ 4294967295) (hp : 0 ≤ p' ∧ p' ≤ 4294967295) (haa : 0 ≤ a' ∧ a' ≤ 4294967295) (hmm : 0 ≤ m' ∧ m' ≤ 65535) (hy : 0 ≤ y' ∧ y' ≤ 65535) (w : World) (h : RMem w p gb gt cb ct bs ts) :
    Calls Tryd.prog 43 #[.pointer (some ⟨p, 0, none⟩), .int .i64 a, .agg #[.bool t, .int .u32 b', .int .u32 p', .int .u32 a', .int .u16 m', .int .u16 y']] w fun e w' => e = .returned (granV bs.length a) ∧ RMem w' p gb gt cb ct (scapB bs a b' p' a' m' y') (scapT bs.length ts a t) ∧ KeepBut (ownsM gb gt) w w' := by
  refine (rstoreCap_any p gb gt cb ct bs ts a ha t b' p' a' m' y' hb hp haa hmm hy w h).mono ?_
  rintro e w' h1
  unfold scapB scapT
  rcases h1 with ⟨hr, rfl, h3⟩ | ⟨hr, rfl, h2, h3⟩
  · rw [if_neg (show ¬ capAt bs.length a from hr), if_neg (show ¬ capAt bs.length a from hr)]; exact ⟨rfl, h.keep h3, h3.but _⟩
  · rw [if_pos (show capAt bs.length a from hr), if_pos (show capAt bs.length a from hr), granV_ok hr]; exact ⟨rfl, h2, h3⟩
/-- Both memories' blocks. -/
def Both (O : Nat → Prop) (gb gt : Nat) (z : Nat) : Prop := O z ∨ z = gb ∨ z = gt
theorem PInv.notBoth {W w : World} {p gb gt N M dm : Nat} {O : Nat → Prop} {bs : List Int} {ts : List Bool} (h : PInv W w p gb gt N M dm O bs ts) {z : Nat} (hz : w.heap.size ≤ z) : ¬ Both O gb gt z := by
  have h1 := h.r.bytes.lt
  have h2 := h.r.tags.lt
  rintro (h3 | rfl | rfl)
  · have := h.d.lt z h3; omega
  · omega
  · omega
theorem PInv.devTurn {W w w' : World} {p gb gt N M dm : Nat} {O : Nat → Prop} {bs : List Int} {ts : List Bool} (h : PInv W w p gb gt N M dm O bs ts) (k : KeepBut O w w') : RMem w' p gb gt N M bs ts ∧ Keep W w' ∧ KeepBut (Both O gb gt) w w' :=
  ⟨h.r.but k (fun hp => (h.own _ hp).2.1 rfl) (fun hp => (h.own _ hp).2.2.1 rfl) (fun hp => (h.own _ hp).2.2.2 rfl), h.kp.butNew k (fun z hz => (h.own z hz).1), k.mono (fun z _ hz => .inl hz)⟩
theorem PInv.refTurn {w w' : World} {gb gt dm : Nat} {O : Nat → Prop} {bs : List Int} {ts : List Bool} (hd : DMem w dm O bs ts) (ho : ∀ z, O z → z ≠ gb ∧ z ≠ gt) (k : KeepBut (ownsM gb gt) w w') : DMem w' dm O bs ts ∧ KeepBut (Both O gb gt) w w' :=
  ⟨hd.but k (fun b hb hm => hm.elim (ho b hb).1 (ho b hb).2), k.mono (fun z _ hz => .inr hz)⟩
theorem ErrV.butRef {w w' : World} {v wv : Value} {p gb gt cb ct : Nat} {bs : List Int} {ts : List Bool} (h : ErrV w v wv) (hr : RMem w p gb gt cb ct bs ts) (k : KeepBut (ownsM gb gt) w w') : ErrV w' v wv := by
  rcases h with h | ⟨q, part, at_, n, h1, h2, h3, h4⟩
  · exact .inl h
  · refine .inr ⟨q, part, at_, n, h1, h2, h3, h4.but k ?_⟩
    have c := h4.cells 0
    rintro (rfl | rfl)
    · rw [hr.bytes.cells] at c
      simp [u8s] at c
    · rw [hr.tags.cells] at c
      simp [bls] at c
theorem conv_nil (ad : Option Addr) (cs : Nat) (W : World) : (convert 37 9 (.slice ad 0 cs)).run Tryd.prog W = .ok (.string (strOfNums [])) W := by
  rw [run_convert_bytes_string W 37 9 5 ad 0 cs Tryd.underlying37 Tryd.underlying5 Tryd.underlying9]
  cases ad <;> (simp [Conv.bytesToString, loadCells, loadCellsFrom, strOfNums]; rfl)
theorem conv_lies {W : World} {v : Value} {xs : List Int} {S : Nat → Prop} (h : Lies W v xs S) : (convert 37 9 v).run Tryd.prog W = .ok (.string (strOfNums xs)) W := by
  obtain ⟨ad, cs, rfl, _, _, hc⟩ := h
  rcases Nat.eq_zero_or_pos xs.length with h0 | hp
  · have : xs = [] := List.eq_nil_of_length_eq_zero h0
    subst this
    exact conv_nil ad cs W
  · obtain ⟨b, off, rfl, _⟩ := hc 0 hp
    exact conv_at xs b off xs.length cs rfl W (fun i hi => by
      obtain ⟨b', off', e, _, _, hcell⟩ := hc i hi
      simp only [Option.some.injEq, Addr.mk.injEq, and_true] at e
      obtain ⟨rfl, rfl⟩ := e
      exact hcell)
def loadV (L : Nat) (a n : Int) : Value := if reachB a n L = true then okV else rangeV a
def loadL (bs : List Int) (a n : Int) : List Int := if reachB a n bs.length = true then (bs.drop a.toNat).take n.toNat else []
theorem dload_u {w : World} {m : Nat} {O : Nat → Prop} {bs : List Int} {ts : List Bool} (a n : Int) (ha : In64 a) (hn : In64 n) (h : DMem w m O bs ts) :
    Calls Tryd.prog 27 #[.pointer (some ⟨m, 0, none⟩), .int .i64 a, .int .i64 n] w fun e w' => ∃ s u, e = .returned (.tuple #[s, u]) ∧ ErrV w' u (loadV bs.length a n) ∧ Lies w' s (loadL bs a n) (fun k => k < w.heap.size) ∧ Keep w w' := by
  refine (dload_any a n ha hn h).mono ?_
  rintro e w' ⟨hk, s, u, rfl, h1⟩
  refine ⟨s, u, rfl, ?_⟩
  unfold loadV loadL
  rcases h1 with ⟨hr, h2, h3⟩ | ⟨hr, rfl, h3⟩
  · rw [hr]; exact ⟨h2, h3, hk⟩
  · rw [hr]; exact ⟨.isOk, h3, hk⟩
theorem rload_u (p gb gt cb ct : Nat) (bs : List Int) (ts : List Bool) (a n : Int) (ha : In64 a) (hn : In64 n) (w : World) (h : RMem w p gb gt cb ct bs ts) :
    Calls Tryd.prog 49 #[.pointer (some ⟨p, 0, none⟩), .int .i64 a, .int .i64 n] w fun e w' => ∃ s, e = .returned (.tuple #[s, loadV bs.length a n]) ∧ Lies w' s (loadL bs a n) (fun k => k < w.heap.size) ∧ Keep w w' := by
  refine (rload_any p gb gt cb ct bs ts a n ha hn w h).mono ?_
  rintro e w' h1
  unfold loadV loadL
  rcases h1 with ⟨hr, rfl, hk⟩ | ⟨hr, g, cap, rfl, ho, hk⟩
  · rw [hr]
    exact ⟨_, rfl, ⟨none, 0, rfl, by simp, by decide, fun k hk => by simp at hk⟩, hk⟩
  · rw [hr]
    obtain ⟨r0, r1, r2⟩ := reachB_true hr
    have hl : ((bs.drop a.toNat).take n.toNat).length = n.toNat := by simp; omega
    refine ⟨_, rfl, ?_, hk⟩
    rw [if_pos rfl]
    rcases Nat.eq_zero_or_pos n.toNat with h0 | hp
    · obtain ⟨_, h | ⟨g', cap', cur, hv, _, _, hn1, hcm, _⟩⟩ := ho
      · cases h.1
      · simp only [Value.slice.injEq, Option.some.injEq, Addr.mk.injEq, and_true, true_and] at hv
        obtain ⟨rfl, rfl⟩ := hv
        exact ⟨_, cap, by rw [hl], by omega, by unfold maxLen at hcm; omega, fun k hk => by omega⟩
    · obtain ⟨hc, h1, h2, h3, h4⟩ := own_cells ho hl hp
      exact ⟨_, cap, by rw [hl], by omega, by unfold maxLen at h2; omega, fun k hk => ⟨g, 0, rfl, by omega, h4, by rw [Nat.zero_add]; exact hc k (by omega)⟩⟩
def zeroB (bs : List Int) (a n : Int) : List Int := if reachB a n bs.length = true then putAt bs a.toNat (List.replicate n.toNat 0) else bs
def zeroT (L : Nat) (ts : List Bool) (a n : Int) : List Bool := if reachB a n L = true then offAt ts a.toNat n.toNat else ts
theorem zeroB_length (bs : List Int) (a n : Int) : (zeroB bs a n).length = bs.length := by unfold zeroB; split <;> simp [putAt_length]
theorem store_zero (bs : List Int) (ts : List Bool) (a : Int) (Q : Nat) : storeV bs.length a (List.replicate Q (0 : Int)).length = loadV bs.length a (Q : Int) ∧ storeB bs a (List.replicate Q 0) = zeroB bs a (Q : Int) ∧ storeT bs.length ts a (List.replicate Q (0 : Int)).length = zeroT bs.length ts a (Q : Int) := by
  unfold storeV storeB storeT loadV zeroB zeroT
  refine ⟨?_, ?_, ?_⟩ <;> simp [List.length_replicate, Int.toNat_natCast]
theorem zero_neg (bs : List Int) (ts : List Bool) (a n : Int) (hn : n < 0) : loadV bs.length a n = rangeV a ∧ zeroB bs a n = bs ∧ zeroT bs.length ts a n = ts := by
  have hr : reachB a n bs.length = false := by
    unfold reachB
    rw [decide_eq_false (show ¬ 0 ≤ n by omega), Bool.and_false, Bool.false_and]
  unfold loadV zeroB zeroT
  rw [hr]
  exact ⟨rfl, rfl, rfl⟩
/-- A row of noughts that was just made. -/
theorem made_lies (w : World) (Q : Nat) (hQ : Q ≤ 9223372036854775807) (S : Nat → Prop) (hS : ¬ S w.heap.size) :
    Lies (w.alloc (.cells (madeCells #[.int .u8 0] Q) 5)) (.slice (some ⟨w.heap.size, 0, none⟩) Q Q) (List.replicate Q 0) S := by
  refine ⟨_, Q, by rw [List.length_replicate], by rw [List.length_replicate]; exact Nat.le_refl _, hQ, fun k hk => ⟨w.heap.size, 0, rfl, hS, by simp, ?_⟩⟩
  rw [(Box.new w _ _).cells, Nat.zero_add, made_u8]
  rw [List.length_replicate] at hk
  simp [u8s, List.getD_eq_getElem?_getD, List.getElem?_replicate, hk]
theorem eqin_rcap (t : Bool) (b p a m y : Int) (w : World) :
    (Op.equalIn 10000 34 (.agg #[.bool t, .int .u32 b, .int .u32 p, .int .u32 a, .int .u16 m, .int .u16 y]) (.agg #[.bool t, .int .u32 b, .int .u32 p, .int .u32 a, .int .u16 m, .int .u16 y])).run Tryd.prog w = .ok true w := by
  go_simp
end Go.Proofs.YtgfoohiaioojoaaDoor
