/- DevErr, DevFns, DevNew: Errors as values, and the developers' memory as it lies. -/
import Derived.Test.YtgfoohiaioojoaaDoorGTell
import Derived.Test.YtgfoohiaioojoaaDoorGMemC
import Derived.Test.YtgfoohiaioojoaaDoorGCap
/- Errors as values, and the developers' memory as it lies. -/
namespace Go.Proofs.YtgfoohiaioojoaaDoor
set_option linter.unusedVariables false
set_option linter.unusedSimpArgs false
open Go.RowKit
theorem own_ints {w : World} {base n : Nat} {v : Value} {l : List Int} (h : w.ownsRow base 3 1 v n (l.map (Value.int .i64))) (hn : l.length = n) (hp : 0 < n) :
    ∃ g cap, v = .slice (some ⟨g, 0, none⟩) n cap ∧ n ≤ cap ∧ cap ≤ maxLen ∧ base ≤ g ∧ g < w.heap.size ∧ ∀ i, i < n → w.cell? ⟨g, i, none⟩ = some (.int .i64 (l.getD i 0)) := by
  obtain ⟨_, h | ⟨g', cap', cur, hv, hbg, hg, hn1, hcm, hsz, hx⟩⟩ := h
  · omega
  · refine ⟨g', cap', hv, hn1, hcm, hbg, (Array.getElem?_eq_some_iff.1 hg).1, fun i hi => ?_⟩
    have e := congrArg (fun x => x[i]?) hx
    simp only [List.getElem?_map, List.getElem?_eq_getElem (show i < l.length by omega), Option.map_some] at e
    rw [List.getElem?_take, if_pos (by omega)] at e
    simp only [World.cell?, hg]
    rw [List.getD_eq_getElem?_getD, List.getElem?_eq_getElem (show i < l.length by omega)]
    simpa using e
def ptrV (m : Nat) : Value := .pointer (some ⟨m, 0, none⟩)
/-- The blocks of a memory. -/
def ownsD (m gb gt : Nat) (k : Nat) : Prop := k = m ∨ k = gb ∨ k = gt
/-- At p lies a memory: its bytes at the head of block gb, its tags at the head of block gt. -/
structure DM (w : World) (p gb gt cb ct : Nat) (bs : List Int) (ts : List Bool) : Prop where
  box : Box w p #[.slice (some ⟨gb, 0, none⟩) bs.length cb, .slice (some ⟨gt, 0, none⟩) ts.length ct]
  bytes : ∃ vs, Box w gb vs ∧ ∀ i, i < bs.length → vs[i]? = some (.int .u8 (bs.getD i 0))
  tags : ∃ vs, Box w gt vs ∧ ∀ i, i < ts.length → vs[i]? = some (.bool (ts.getD i false))
  pb : p ≠ gb
  pt : p ≠ gt
  bt : gb ≠ gt
  isB : ∀ z ∈ bs, IsByte z
  len : bs.length = 16 * ts.length
  most : bs.length ≤ 65536
  capb : bs.length ≤ cb ∧ cb ≤ 9223372036854775807
  capt : ts.length ≤ ct ∧ ct ≤ 9223372036854775807
namespace DM
variable {w w' : World} {p gb gt cb ct : Nat} {bs : List Int} {ts : List Bool}
theorem ofR (h : RMem w p gb gt cb ct bs ts) : DM w p gb gt cb ct bs ts :=
  { h with
    bytes := ⟨_, h.bytes, fun i hi => by simp [u8s, List.getD_eq_getElem?_getD, List.getElem?_eq_getElem hi]⟩
    tags := ⟨_, h.tags, fun i hi => by simp [bls, List.getD_eq_getElem?_getD, List.getElem?_eq_getElem hi]⟩ }
theorem keep (h : DM w p gb gt cb ct bs ts) (k : Keep w w') : DM w' p gb gt cb ct bs ts :=
  { h with
    box := h.box.keep k
    bytes := h.bytes.imp fun _ h => ⟨h.1.keep k, h.2⟩
    tags := h.tags.imp fun _ h => ⟨h.1.keep k, h.2⟩ }
theorem but {S : Nat → Prop} (h : DM w p gb gt cb ct bs ts) (k : KeepBut S w w') (hp : ¬ S p) (hb : ¬ S gb) (ht : ¬ S gt) : DM w' p gb gt cb ct bs ts :=
  { h with
    box := h.box.but k hp
    bytes := h.bytes.imp fun _ h => ⟨h.1.but k hb, h.2⟩
    tags := h.tags.imp fun _ h => ⟨h.1.but k ht, h.2⟩ }
theorem ltb (h : DM w p gb gt cb ct bs ts) : gb < w.heap.size := h.bytes.elim fun _ h => h.1.lt
theorem ltt (h : DM w p gb gt cb ct bs ts) : gt < w.heap.size := h.tags.elim fun _ h => h.1.lt
theorem cell (h : DM w p gb gt cb ct bs ts) {i : Nat} (hi : i < bs.length) : w.cell? ⟨gb, i, none⟩ = some (.int .u8 (bs.getD i 0)) := by
  obtain ⟨vs, hB, hv⟩ := h.bytes
  rw [hB.cells]
  exact hv i hi
theorem tag (h : DM w p gb gt cb ct bs ts) {i : Nat} (hi : i < ts.length) : w.cell? ⟨gt, i, none⟩ = some (.bool (ts.getD i false)) := by
  obtain ⟨vs, hB, hv⟩ := h.tags
  rw [hB.cells]
  exact hv i hi
theorem thawb (h : DM w p gb gt cb ct bs ts) : ∀ i, w.frozen? ⟨gb, i, none⟩ = false := h.bytes.elim fun _ h => h.1.thawed
theorem thawt (h : DM w p gb gt cb ct bs ts) : ∀ i, w.frozen? ⟨gt, i, none⟩ = false := h.tags.elim fun _ h => h.1.thawed
theorem setb (h : DM w p gb gt cb ct bs ts) (i : Nat) (z : Int) (hz : IsByte z) (hi : i < bs.length) : DM (w.setCell ⟨gb, i, none⟩ (.int .u8 z)) p gb gt cb ct (bs.set i z) ts :=
  { h with
    box := by rw [List.length_set]; exact h.box.other h.pb _
    bytes := by
      obtain ⟨vs, hB, hv⟩ := h.bytes
      refine ⟨_, hB.set i _, fun j hj => ?_⟩
      rw [List.length_set] at hj
      rw [Array.getElem?_setIfInBounds]
      have hvi := hv i hi
      have hsz : i < vs.size := (Array.getElem?_eq_some_iff.1 hvi).1
      by_cases e : i = j
      · subst e
        simp [hsz, List.getD_eq_getElem?_getD, hi]
      · rw [if_neg e, hv j hj]
        simp [List.getD_eq_getElem?_getD, e]
    tags := h.tags.imp fun _ q => ⟨q.1.other (Ne.symm h.bt) _, q.2⟩
    isB := fun y hy => by
      rcases List.mem_or_eq_of_mem_set hy with h' | rfl
      · exact h.isB y h'
      · exact hz
    len := by rw [List.length_set]; exact h.len
    most := by rw [List.length_set]; exact h.most
    capb := by rw [List.length_set]; exact h.capb }
theorem sett (h : DM w p gb gt cb ct bs ts) (j : Nat) (t : Bool) (hi : j < ts.length) : DM (w.setCell ⟨gt, j, none⟩ (.bool t)) p gb gt cb ct bs (ts.set j t) :=
  { h with
    box := by rw [List.length_set]; exact h.box.other h.pt _
    bytes := h.bytes.imp fun _ q => ⟨q.1.other h.bt _, q.2⟩
    tags := by
      obtain ⟨vs, hB, hv⟩ := h.tags
      refine ⟨_, hB.set j _, fun i hj => ?_⟩
      rw [List.length_set] at hj
      rw [Array.getElem?_setIfInBounds]
      have hvi := hv j hi
      have hsz : j < vs.size := (Array.getElem?_eq_some_iff.1 hvi).1
      by_cases e : j = i
      · subst e
        simp [hsz, List.getD_eq_getElem?_getD, hi]
      · rw [if_neg e, hv i hj]
        simp [List.getD_eq_getElem?_getD, e]
    len := by rw [List.length_set]; exact h.len
    capt := by rw [List.length_set]; exact h.capt }
end DM
/-- At m lies the developers' memory: its bytes, its tags, in the blocks that O holds of. -/
def DMem (w : World) (m : Nat) (O : Nat → Prop) (bs : List Int) (ts : List Bool) : Prop :=
  ∃ gb gt cb ct, DM w m gb gt cb ct bs ts ∧ O = ownsD m gb gt
namespace DMem
variable {w w' : World} {m : Nat} {O : Nat → Prop} {bs : List Int} {ts : List Bool}
theorem keep (h : DMem w m O bs ts) (k : Keep w w') : DMem w' m O bs ts := by
  obtain ⟨gb, gt, cb, ct, hr, rfl⟩ := h
  exact ⟨gb, gt, cb, ct, hr.keep k, rfl⟩
theorem but {T : Nat → Prop} (h : DMem w m O bs ts) (k : KeepBut T w w') (hT : ∀ b, O b → ¬ T b) : DMem w' m O bs ts := by
  obtain ⟨gb, gt, cb, ct, hr, rfl⟩ := h
  exact ⟨gb, gt, cb, ct, hr.but k (hT _ (.inl rfl)) (hT _ (.inr (.inl rfl))) (hT _ (.inr (.inr rfl))), rfl⟩
theorem lt (h : DMem w m O bs ts) : ∀ b, O b → b < w.heap.size := by
  obtain ⟨gb, gt, cb, ct, hr, rfl⟩ := h
  rintro b (rfl | rfl | rfl)
  · exact hr.box.lt
  · exact hr.ltb
  · exact hr.ltt
theorem len (h : DMem w m O bs ts) : bs.length = 16 * ts.length := by
  obtain ⟨gb, gt, cb, ct, hr, rfl⟩ := h
  exact hr.len
theorem most (h : DMem w m O bs ts) : bs.length ≤ 65536 := by
  obtain ⟨gb, gt, cb, ct, hr, rfl⟩ := h
  exact hr.most
theorem isB (h : DMem w m O bs ts) : ∀ z ∈ bs, IsByte z := by
  obtain ⟨gb, gt, cb, ct, hr, rfl⟩ := h
  exact hr.isB
end DMem
end Go.Proofs.YtgfoohiaioojoaaDoor

/- Package mem: unless, first, holds, begins, Size. -/
namespace Go.Proofs.YtgfoohiaioojoaaDoor
set_option linter.unusedVariables false
set_option linter.unusedSimpArgs false
open Go.RowKit
theorem unless_well (part : ByteArray) (a n : Int) (w : World) : Calls Tryd.prog 67 #[.bool true, .string part, .int .i64 a, .int .i64 n] w fun e w' => e = .returned .nilIface ∧ Keep w w' := by
  go_enter Tryd.func67, Tryd.ntmps67
  go_wp2_with fail
  go_ret
  exact ⟨rfl, Keep.refl _⟩
theorem unless_not (part : ByteArray) (a n : Int) (w : World) : Calls Tryd.prog 67 #[.bool false, .string part, .int .i64 a, .int .i64 n] w fun e w' => ∃ q, e = .returned (faultP q) ∧ Box w' q #[.string part, .int .i64 a, .iface 80 (.int .i64 n)] ∧ w.heap.size ≤ q ∧ Keep w w' := by
  unfold faultP
  go_enter Tryd.func67, Tryd.ntmps67
  go_wp2_with fail
  go_ret
  exact ⟨w.heap.size, rfl, Box.new _ _ _, Nat.le_refl _, (Keep.refl _).alloc _⟩
theorem unless_any (well : Bool) (part : ByteArray) (a n : Int) (hn : ¬ n = 0) (w : World) : Calls Tryd.prog 67 #[.bool well, .string part, .int .i64 a, .int .i64 n] w fun e w' => ∃ v, e = .returned v ∧ ErrV w' v (if well = true then okV else wrongV part a n) ∧ Keep w w' := by
  cases well
  · refine (unless_not part a n w).mono ?_
    rintro e w' ⟨q, rfl, hB, _, hk⟩
    exact ⟨_, rfl, .inr ⟨q, part, a, n, hn, rfl, rfl, hB⟩, hk⟩
  · refine (unless_well part a n w).mono ?_
    rintro e w' ⟨rfl, hk⟩
    exact ⟨_, rfl, .isOk, hk⟩
set_option maxHeartbeats 1000000 in
theorem first_nn (b : Nat) (w : World) (hB : Box w b #[.nilIface, .nilIface]) : Calls Tryd.prog 66 #[.slice (some ⟨b, 0, none⟩) 2 2] w fun e w' => e = .returned .nilIface ∧ Keep w w' := by
  have lb := hB.lt
  have c0 := hB.cells
  go_enter Tryd.func66, Tryd.ntmps66
  go_wp2_with fail
  refine wp_loop_rounds 3 ?_
  rw [rounds_succ]
  go_wp2_with (go_at_call 34; refine (as_nil _ _).mono ?_; rintro e w' ⟨rfl, rfl⟩)
  rw [rounds_succ]
  go_wp2_with (go_at_call 34; refine (as_nil _ _).mono ?_; rintro e w' ⟨rfl, rfl⟩)
  rw [rounds_succ]
  go_wp2_with fail
  go_ret
  exact ⟨rfl, ((Keep.refl _).alloc _).alloc _⟩
/-- errors.As at a variable that was just made. -/
theorem as_fresh (q F : Nat) (w : World) (hF : F = w.heap.size) (hE : ErrT w) :
    Calls Tryd.prog 34 #[.iface 74 (.pointer (some ⟨q, 0, none⟩)), .iface 76 (.pointer (some ⟨F, 0, none⟩))] (w.alloc (.cells #[.pointer none] 74)) fun e w' => e = .returned (.bool true) ∧ Keep w w' ∧ Box w' F #[.pointer (some ⟨q, 0, none⟩)] := by
  subst hF
  refine (as_once w.heap.size q (.pointer none) _ (hE.keep ((Keep.refl _).alloc _)) (Box.new _ _ _) (Nat.ne_of_gt hE.lt)).mono ?_
  rintro e w' ⟨rfl, hs, hB⟩
  refine ⟨rfl, ?_, hB⟩
  exact Keep.butNew ((Keep.refl w).alloc _) hs.1 (fun x hx => by subst hx; exact Nat.le_refl _)
set_option maxHeartbeats 1000000 in
theorem first_f (q b : Nat) (v : Value) (w : World) (hB : Box w b #[faultP q, v]) (hE : ErrT w) : Calls Tryd.prog 66 #[.slice (some ⟨b, 0, none⟩) 2 2] w fun e w' => e = .returned (faultP q) ∧ Keep w w' := by
  unfold faultP at hB ⊢
  have lb := hB.lt
  have c0 := hB.cells
  have HE := Lib.hid hE
  clear hE
  go_enter Tryd.func66, Tryd.ntmps66
  go_wp2_with fail
  refine wp_loop_rounds 3 ?_
  rw [rounds_succ]
  go_wp2_with fail
  go_at_call 34
  refine (as_fresh q _ _ rfl HE.out).mono ?_
  rintro e w' ⟨rfl, hk, hF⟩
  have cF := hF.cells
  have HK := Lib.hid hk
  clear hk
  go_wp2_with fail
  go_ret
  exact ⟨rfl, HK.out⟩
set_option maxHeartbeats 1000000 in
theorem first_nf (q b : Nat) (w : World) (hB : Box w b #[.nilIface, faultP q]) (hE : ErrT w) : Calls Tryd.prog 66 #[.slice (some ⟨b, 0, none⟩) 2 2] w fun e w' => e = .returned (faultP q) ∧ Keep w w' := by
  unfold faultP at hB ⊢
  have lb := hB.lt
  have c0 := hB.cells
  have HE := Lib.hid hE
  clear hE
  go_enter Tryd.func66, Tryd.ntmps66
  go_wp2_with fail
  refine wp_loop_rounds 3 ?_
  rw [rounds_succ]
  go_wp2_with (go_at_call 34; refine (as_nil _ _).mono ?_; rintro e w' ⟨rfl, rfl⟩)
  rw [rounds_succ]
  go_wp2_with fail
  go_at_call 34
  refine (as_fresh q _ (w.alloc (.cells #[.pointer none] 74)) (by simp) (HE.out.keep ((Keep.refl _).alloc _))).mono ?_
  rintro e w' ⟨rfl, hk, hF⟩
  have cF := hF.cells
  have HK := Lib.hid (((Keep.refl w).alloc _).trans hk)
  clear hk
  go_wp2_with fail
  go_ret
  exact ⟨rfl, HK.out⟩
/-- The first of two that is told. -/
theorem first_any (b : Nat) (v1 v2 e1 e2 : Value) (w : World) (hB : Box w b #[v1, v2]) (hE : ErrT w) (h1 : ErrV w v1 e1) (h2 : ErrV w v2 e2) : Calls Tryd.prog 66 #[.slice (some ⟨b, 0, none⟩) 2 2] w fun e w' => ∃ v, e = .returned v ∧ Keep w w' ∧ ((e1 = okV ∧ ErrV w' v e2) ∨ (e1 ≠ okV ∧ ErrV w' v e1)) := by
  rcases h1 with ⟨rfl, rfl⟩ | ⟨q, part, a, n, hn, rfl, rfl, hq⟩
  · rcases h2 with ⟨rfl, rfl⟩ | ⟨q, part, a, n, hn, rfl, rfl, hq⟩
    · refine (first_nn b w hB).mono ?_
      rintro e w' ⟨rfl, hk⟩
      exact ⟨_, rfl, hk, .inl ⟨rfl, .isOk⟩⟩
    · refine (first_nf q b w hB hE).mono ?_
      rintro e w' ⟨rfl, hk⟩
      exact ⟨_, rfl, hk, .inl ⟨rfl, .inr ⟨q, part, a, n, hn, rfl, rfl, hq.keep hk⟩⟩⟩
  · refine (first_f q b v2 w hB hE).mono ?_
    rintro e w' ⟨rfl, hk⟩
    exact ⟨_, rfl, hk, .inr ⟨fun h => hn (okV_wrong h.symm), .inr ⟨q, part, a, n, hn, rfl, rfl, hq.keep hk⟩⟩⟩
theorem rsize_any {w : World} {m gb gt cb ct : Nat} {bs : List Int} {ts : List Bool} (h : DM w m gb gt cb ct bs ts) : Calls Tryd.prog 59 #[.pointer (some ⟨m, 0, none⟩)] w fun e w' => e = .returned (.int .i64 (bs.length : Int)) ∧ Keep w w' := by
  have hM := h.most
  have B := h.box
  have lb := B.lt
  have c0 := B.cells
  clear h B
  go_enter Tryd.func59, Tryd.ntmps59
  go_wp2_with fail
  go_ret
  exact ⟨rfl, Keep.refl _⟩
set_option maxHeartbeats 1000000 in
theorem holds_any {m gb gt cb ct : Nat} {bs : List Int} {ts : List Bool} (a n : Int) (ha : In64 a) (hn : In64 n) (w : World) (h : DM w m gb gt cb ct bs ts) :
    Calls Tryd.prog 65 #[.pointer (some ⟨m, 0, none⟩), .int .i64 a, .int .i64 n] w fun e w' => ∃ v, e = .returned v ∧ ErrV w' v (reachV a n bs.length) ∧ Keep w w' := by
  have hM := h.most
  obtain ⟨L, hLe⟩ : ∃ L, L = bs.length := ⟨_, rfl⟩
  have CS := Lib.hid (fun W (k : Keep w W) => rsize_any (h.keep k))
  rw [← hLe] at hM CS ⊢
  unfold In64 at ha hn
  clear h hLe
  go_enter Tryd.func65, Tryd.ntmps65
  go_wp2_with (go_at_call 59; refine (CS.out _ (Keep.refl _)).mono ?_; rintro e w1 ⟨rfl, hk1⟩)
  all_goals (
    refine (unless_any _ _ a 6 (by decide) _).mono ?_
    rintro e w2 ⟨v, rfl, hv, hk2⟩
    have HV := Lib.hid hv
    have HK := Lib.hid hk2
    clear hv hk2
    go_wp2_with fail
    go_ret
    refine ⟨v, rfl, ?_, ?_⟩
    · have hv := HV.out
      first
        | (rw [if_neg (by decide)] at hv
           rw [show reachV a n L = rangeV a by unfold reachV; rw [if_neg (by simp [reachB]; omega)]]
           exact hv)
        | (rw [show reachV a n L = if decide (n ≤ (L : Int) - a) = true then okV else rangeV a by
             unfold reachV
             by_cases h : n ≤ (L : Int) - a
             · rw [if_pos (by simp [reachB]; omega), if_pos (by simp; omega)]
             · rw [if_neg (by simp [reachB]; omega), if_neg (by simp; omega)]]
           exact hv)
    · first | exact HK.out | exact hk1.trans HK.out)
theorem tmod16 (a : Int) : a.tmod 16 = 0 ↔ a % 16 = 0 := by rw [← Int.dvd_iff_tmod_eq_zero, Int.dvd_iff_emod_eq_zero]
/-- No granule begins there, or it does. -/
theorem begins_any {m gb gt cb ct : Nat} {bs : List Int} {ts : List Bool} (a : Int) (ha : In64 a) (w : World) (h : DM w m gb gt cb ct bs ts) (hE : ErrT w) :
    Calls Tryd.prog 76 #[.pointer (some ⟨m, 0, none⟩), .int .i64 a] w fun e w' => ∃ v, e = .returned v ∧ ErrV w' v (granV bs.length a) ∧ Keep w w' := by
  have C := Lib.hid (holds_any a 16 ha (by unfold In64; decide) w h)
  have HE := Lib.hid hE
  obtain ⟨L, hLe⟩ : ∃ L, L = bs.length := ⟨_, rfl⟩
  rw [← hLe] at C ⊢
  unfold In64 at ha
  clear h hLe hE
  go_enter Tryd.func76, Tryd.ntmps76
  go_wp2_with fail
  refine C.out.mono ?_
  rintro e w1 ⟨v1, rfl, hv1, hk1⟩
  have V1 := Lib.hid hv1
  have K1 := Lib.hid hk1
  clear hv1 hk1
  go_wp2_with fail
  · (
    refine (unless_any _ _ a 5 (by decide) _).mono ?_
    rintro e w2 ⟨v2, rfl, hv2, hk2⟩
    have V2 := Lib.hid hv2
    have K2 := Lib.hid (K1.out.trans hk2)
    have U2 := Lib.hid (V1.out.keep hk2)
    clear hv2 hk2 K1 V1
    obtain ⟨e1, he1⟩ : ∃ e1, e1 = reachV a 16 L := ⟨_, rfl⟩
    obtain ⟨e2, he2⟩ : ∃ e2, e2 = (if (a.tmod 16 == 0) = true then okV else wrongV ⟨#[109, 101, 109]⟩ a 5) := ⟨_, rfl⟩
    rw [← he1] at U2
    rw [← he2] at V2
    have HR : Hid (∀ e3, ((e1 = okV ∧ e3 = e2) ∨ (e1 ≠ okV ∧ e3 = e1)) → e3 = granV L a) := Lib.hid (by
      rintro e3 (⟨h1, rfl⟩ | ⟨h1, rfl⟩)
      · rw [he1] at h1
        rw [he2]
        unfold granV
        by_cases hr : reachB a 16 L = true
        · rw [if_pos hr]
          by_cases hm : a % 16 = 0
          · rw [if_pos hm, if_pos (by rw [beq_iff_eq]; exact (tmod16 a).2 hm)]
          · rw [if_neg hm, if_neg (by rw [beq_iff_eq]; exact fun h => hm ((tmod16 a).1 h))]
            rfl
        · unfold reachV at h1
          rw [if_neg hr] at h1
          exact absurd (okV_wrong h1.symm) (by decide)
      · rw [he1] at h1 ⊢
        unfold granV
        unfold reachV at h1 ⊢
        by_cases hr : reachB a 16 L = true
        · rw [if_pos hr] at h1; exact absurd rfl h1
        · rw [if_neg hr, if_neg hr])
    clear he1 he2
    have f1 : v1 = .nilIface ∨ ∃ q, v1 = faultP q := by
      rcases U2.out with ⟨_, h⟩ | ⟨q, _, _, _, _, _, h, _⟩
      · exact .inl h
      · exact .inr ⟨q, h⟩
    have f2 : v2 = .nilIface ∨ ∃ q, v2 = faultP q := by
      rcases V2.out with ⟨_, h⟩ | ⟨q, _, _, _, _, _, h, _⟩
      · exact .inl h
      · exact .inr ⟨q, h⟩
    unfold faultP at f1 f2
    rcases f1 with rfl | ⟨q1, rfl⟩ <;> rcases f2 with rfl | ⟨q2, rfl⟩
    all_goals (
    go_wp2_with fail
    refine (first_any _ _ _ e1 e2 _ (Box.new _ _ _) (HE.out.keep (K2.out.alloc _)) (U2.out.keep ((Keep.refl _).alloc _)) (V2.out.keep ((Keep.refl _).alloc _))).mono ?_
    rintro e w3 ⟨v, rfl, hk3, hv⟩
    have K3 := Lib.hid ((K2.out.alloc _).trans hk3)
    have V3 := Lib.hid hv
    clear hk3 hv
    go_wp2_with fail
    go_ret
    refine ⟨v, rfl, ?_, K3.out⟩
    rcases V3.out with ⟨h1, h2⟩ | ⟨h1, h2⟩
    · rw [← HR.out e2 (.inl ⟨h1, rfl⟩)]; exact h2
    · rw [← HR.out e1 (.inr ⟨h1, rfl⟩)]; exact h2))
end Go.Proofs.YtgfoohiaioojoaaDoor

/- mem.New. -/
namespace Go.Proofs.YtgfoohiaioojoaaDoor
set_option linter.unusedVariables false
set_option linter.unusedSimpArgs false
open Go.RowKit Go.Deep
/-- What is wrong with a size: its bounds, its granules. -/
def sz1 (size : Int) : Value := if 16 ≤ size ∧ size ≤ 65536 then okV else sizeV size 6
def sz2 (size : Int) : Value := if size % 16 = 0 then okV else sizeV size 5
theorem sizeV_ok {size n : Int} (hn : ¬ n = 0) : sizeV size n ≠ okV := fun h => hn (okV_wrong (part := ⟨#[115, 105, 122, 101]⟩) (at_ := size) h.symm)
set_option maxHeartbeats 1000000 in
theorem dnew_bad (size : Int) (hs : In64 size) (n : Int) (hn : (size < 16 ∨ 65536 < size) ∧ n = 6 ∨ (16 ≤ size ∧ size ≤ 65536) ∧ ¬ size % 16 = 0 ∧ n = 5) (w : World) (hE : ErrT w) :
    Calls Tryd.prog 30 #[.int .i64 size] w fun e w' => ∃ v, e = .returned (.tuple #[.pointer none, v]) ∧ ErrV w' v (sizeV size n) ∧ Keep w w' := by
  have HE := Lib.hid hE
  have HN : Hid (∀ e3, ((sz1 size = okV ∧ e3 = sz2 size) ∨ (sz1 size ≠ okV ∧ e3 = sz1 size)) → e3 = sizeV size n) := Lib.hid (by
    unfold sz1 sz2
    rintro e3 (⟨h1, rfl⟩ | ⟨h1, rfl⟩)
    · rcases hn with ⟨h, rfl⟩ | ⟨h, hm, rfl⟩
      · rw [if_neg (by omega)] at h1; exact absurd h1 (sizeV_ok (by decide))
      · rw [if_neg hm]
    · rcases hn with ⟨h, rfl⟩ | ⟨h, hm, rfl⟩
      · rw [if_neg (by omega)]
      · rw [if_pos (by omega)] at h1; exact absurd rfl h1)
  have HZ : Hid (¬ n = 0) := Lib.hid (by omega)
  unfold In64 at hs
  clear hE hn
  go_enter Tryd.func30, Tryd.ntmps30
  go_wp2_with fail
  all_goals (
    refine (unless_any _ ⟨#[115, 105, 122, 101]⟩ size 6 (by decide) _).mono ?_
    rintro e w1 ⟨v1, rfl, hv1, hk1⟩
    have V1 : Hid (ErrV w1 v1 (sz1 size)) := Lib.hid (by
      have h := hv1
      unfold sz1
      first
        | (rw [if_neg (by decide)] at h
           rw [if_neg (by omega)]
           exact h)
        | (by_cases q : size ≤ 65536
           · rw [if_pos (decide_eq_true q)] at h
             rw [if_pos (by omega)]
             exact h
           · rw [if_neg (by simpa using q)] at h
             rw [if_neg (by omega)]
             exact h))
    have K1 := Lib.hid hk1
    clear hv1 hk1
    go_wp2_with fail
    refine (unless_any _ ⟨#[115, 105, 122, 101]⟩ size 5 (by decide) _).mono ?_
    rintro e w2 ⟨v2, rfl, hv2, hk2⟩
    have V2 : Hid (ErrV w2 v2 (sz2 size)) := Lib.hid (by
      have h := hv2
      unfold sz2
      by_cases q : size % 16 = 0
      · rw [if_pos (by rw [beq_iff_eq]; first | exact q | exact (tmod16 size).2 q)] at h
        rw [if_pos q]
        exact h
      · rw [if_neg (by rw [beq_iff_eq]; first | exact q | exact fun h => q ((tmod16 size).1 h))] at h
        rw [if_neg q]
        exact h)
    have K2 := Lib.hid (K1.out.trans hk2)
    have U2 := Lib.hid (V1.out.keep hk2)
    clear hv2 hk2 K1 V1
    have f1 : v1 = .nilIface ∨ ∃ q, v1 = faultP q := by
      rcases U2.out with ⟨_, h⟩ | ⟨q, _, _, _, _, _, h, _⟩
      · exact .inl h
      · exact .inr ⟨q, h⟩
    have f2 : v2 = .nilIface ∨ ∃ q, v2 = faultP q := by
      rcases V2.out with ⟨_, h⟩ | ⟨q, _, _, _, _, _, h, _⟩
      · exact .inl h
      · exact .inr ⟨q, h⟩
    unfold faultP at f1 f2
    rcases f1 with rfl | ⟨q1, rfl⟩ <;> rcases f2 with rfl | ⟨q2, rfl⟩
    all_goals (
      go_wp2_with fail
      refine (first_any _ _ _ (sz1 size) (sz2 size) _ (Box.new _ _ _) (HE.out.keep (K2.out.alloc _)) (U2.out.keep ((Keep.refl _).alloc _)) (V2.out.keep ((Keep.refl _).alloc _))).mono ?_
      rintro e w3 ⟨v, rfl, hk3, hv⟩
      have K3 := Lib.hid ((K2.out.alloc _).trans hk3)
      have V3 : ErrV w3 v (sizeV size n) := by
        rcases hv with ⟨h1, h2⟩ | ⟨h1, h2⟩
        · rw [← HN.out _ (.inl ⟨h1, rfl⟩)]; exact h2
        · rw [← HN.out _ (.inr ⟨h1, rfl⟩)]; exact h2
      obtain ⟨q, rfl⟩ := V3.fault (sizeV_ok HZ.out)
      have V4 := Lib.hid V3
      clear hk3 hv V3
      unfold faultP
      go_wp2_with fail
      refine bodyPost_ret (v := .tuple #[.pointer none, .iface 74 (.pointer (some ⟨q, 0, none⟩))]) (by simp [results, Tryd.results30, go_sem]; done) rfl ⟨_, rfl, V4.out, K3.out⟩))
set_option maxRecDepth 100000 in
set_option maxHeartbeats 1000000 in
theorem dnew_good (N M : Nat) (h1 : 16 ≤ N) (h2 : N ≤ 65536) (h3 : N = 16 * M) (w : World) (hE : ErrT w) :
    Calls Tryd.prog 30 #[.int .i64 N] w fun e w' => ∃ m O, e = .returned (.tuple #[ptrV m, .nilIface]) ∧ DMem w' m O (List.replicate N 0) (List.replicate M false) ∧ Keep w w' ∧ ∀ b, O b → w.heap.size ≤ b := by
  unfold ptrV
  have HE := Lib.hid hE
  have hmk1 := run_make_row' (P := Tryd.prog) 37 5 (.int .u8 0) 1 Tryd.underlying37 infoU8 rfl .i64 .i64 N (by omega) (by omega)
  have hmk2 := run_make_row' (P := Tryd.prog) 106 4 (.bool false) 1 Tryd.underlying106 infoBool rfl .i64 .i64 M (by omega) (by omega)
  have hw : IntKind.i64.wrap ((N : Int) / 16) = (M : Int) := by rw [IntKind.wrap_i64]; omega
  have hmod : Hid ((N : Int) % 16 = 0) := Lib.hid (by omega)
  have b1 : (16 : Int) ≤ (N : Int) := by omega
  have b2 : (N : Int) ≤ 65536 := by omega
  have hd : (N : Int) / 16 = (M : Int) := by omega
  have H3 := Lib.hid h3
  clear h3 hE
  go_enter Tryd.func30, Tryd.ntmps30
  go_wp2_with fail
  refine (unless_any _ ⟨#[115, 105, 122, 101]⟩ N 6 (by decide) _).mono ?_
  rintro e w1 ⟨v1, rfl, hv1, hk1⟩
  rw [if_pos (by first | (simp; done) | (simp; omega))] at hv1
  obtain rfl := hv1.ok
  clear hv1
  go_wp2_with fail
  refine (unless_any _ ⟨#[115, 105, 122, 101]⟩ N 5 (by decide) _).mono ?_
  rintro e w2 ⟨v2, rfl, hv2, hk2⟩
  rw [if_pos (by rw [beq_iff_eq]; first | exact hmod.out | exact (tmod16 _).2 hmod.out)] at hv2
  obtain rfl := hv2.ok
  have K2 := Lib.hid (hk1.trans hk2)
  clear hv2 hk1 hk2
  go_wp2_with fail
  refine (first_nn _ _ (Box.new _ _ _)).mono ?_
  rintro e w3 ⟨rfl, hk3⟩
  have K3 := Lib.hid ((K2.out.alloc _).trans hk3)
  clear hk3 K2
  go_wp2_with fail
  go_region
  all_goals go_wp2_with fail
  · have ks := K3.out.size
    refine bodyPost_ret (v := .tuple #[.pointer (some ⟨w3.heap.size + 1 + 1, 0, none⟩), .nilIface]) (by simp [results, Tryd.results30, go_sem]; done) rfl ⟨_, _, rfl, ⟨_, _, _, _, DM.ofR (RMem.fresh ((Box.newAt _ _ _ _ (by simp)).drew) ((((Box.newAt _ _ _ _ (by simp)).alloc _).alloc _).drew) (((Box.newAt _ _ _ _ (by simp)).alloc _).drew) (by omega) (by omega) (by omega) H3.out h2), rfl⟩, (((K3.out.alloc _).alloc _).alloc _).drew, ?_⟩
    rintro b (rfl | rfl | rfl) <;> omega
  · have ks := K3.out.size
    refine bodyPost_ret (v := .tuple #[.pointer (some ⟨w3.heap.size + 1 + 1, 0, none⟩), .nilIface]) (by simp [results, Tryd.results30, go_sem]; done) rfl ⟨_, _, rfl, ⟨_, _, _, _, DM.ofR (RMem.fresh ((Box.newAt _ _ _ _ (by simp)).drew) (((Box.newAt _ _ _ _ (by simp)).alloc _).drew) ((((Box.newAt _ _ _ _ (by simp)).alloc _).alloc _).drew) (by omega) (by omega) (by omega) H3.out h2), rfl⟩, (((K3.out.alloc _).alloc _).alloc _).drew, ?_⟩
    rintro b (rfl | rfl | rfl) <;> omega
end Go.Proofs.YtgfoohiaioojoaaDoor
