/- The reference's Store. -/
import Derived.Test.YtnnelghngekbpaaDoorMemLoad
namespace Go.Proofs.YtnnelghngekbpaaDoor
set_option linter.unusedVariables false
set_option linter.unusedSimpArgs false
open Go.RowKit
def In64 (x : Int) : Prop := -9223372036854775808 ≤ x ∧ x ≤ 9223372036854775807
def putAt : List Int → Nat → List Int → List Int
  | bs, _, [] => bs
  | bs, a, x :: xs => putAt (bs.set a x) (a + 1) xs
def offAt : List Bool → Nat → Nat → List Bool
  | ts, _, 0 => ts
  | ts, a, n + 1 => offAt (ts.set (a / 16) false) (a + 1) n
theorem putAt_length (xs : List Int) : ∀ (bs : List Int) (a : Nat), (putAt bs a xs).length = bs.length := by
  induction xs with
  | nil => intro bs a; rfl
  | cons x xs ih => intro bs a; simp [putAt, ih]
theorem putAt_append (xs ys : List Int) : ∀ (bs : List Int) (a : Nat), putAt bs a (xs ++ ys) = putAt (putAt bs a xs) (a + xs.length) ys := by
  induction xs with
  | nil => intro bs a; rfl
  | cons x xs ih => intro bs a; simp only [List.cons_append, putAt, ih, List.length_cons]; rw [show a + (xs.length + 1) = a + 1 + xs.length by omega]
theorem putAt_step (xs : List Int) (bs : List Int) (a k : Nat) (h : k < xs.length) : putAt bs a (xs.take (k + 1)) = (putAt bs a (xs.take k)).set (a + k) (xs.getD k 0) := by
  rw [List.take_succ_eq_append_getElem h, putAt_append]
  simp only [putAt, List.length_take, Nat.min_eq_left (Nat.le_of_lt h), List.getD_eq_getElem?_getD, List.getElem?_eq_getElem h, Option.getD_some]
theorem offAt_length (n : Nat) : ∀ (ts : List Bool) (a : Nat), (offAt ts a n).length = ts.length := by
  induction n with
  | zero => intro ts a; rfl
  | succ n ih => intro ts a; simp [offAt, ih]
theorem offAt_step (n : Nat) : ∀ (ts : List Bool) (a : Nat), offAt ts a (n + 1) = (offAt ts a n).set ((a + n) / 16) false := by
  induction n with
  | zero => intro ts a; rfl
  | succ n ih => intro ts a; rw [offAt, ih, offAt, show a + 1 + n = a + (n + 1) by omega]
theorem putAt_byte (xs : List Int) (hx : ∀ z ∈ xs, IsByte z) : ∀ (bs : List Int) (a : Nat), (∀ z ∈ bs, IsByte z) → ∀ z ∈ putAt bs a xs, IsByte z := by
  induction xs with
  | nil => intro bs a h; exact h
  | cons x xs ih =>
    intro bs a h
    refine ih (fun z hz => hx z (by simp [hz])) _ _ fun z hz => ?_
    rcases List.mem_or_eq_of_mem_set hz with h' | rfl
    · exact h z h'
    · exact hx _ (by simp)
theorem u8s_set (l : List Int) (i : Nat) (z : Int) : u8s (l.set i z) = (u8s l).setIfInBounds i (.int .u8 z) := by
  simp [u8s, List.map_set]
theorem bls_set (l : List Bool) (i : Nat) (z : Bool) : bls (l.set i z) = (bls l).setIfInBounds i (.bool z) := by
  simp [bls, List.map_set]
/-- A memory whose byte and tag are set. -/
theorem RMem.set {w : World} {p gb gt cb ct : Nat} {bs : List Int} {ts : List Bool} (h : RMem w p gb gt cb ct bs ts) (i : Nat) (z : Int) (hz : IsByte z) (j : Nat) (t : Bool) :
    RMem ((w.setCell ⟨gb, i, none⟩ (.int .u8 z)).setCell ⟨gt, j, none⟩ (.bool t)) p gb gt cb ct (bs.set i z) (ts.set j t) :=
  { box := by rw [List.length_set, List.length_set]; exact (h.box.other h.pb _).other h.pt _
    bytes := by rw [u8s_set]; exact (h.bytes.set i _).other h.bt _
    tags := by rw [bls_set]; exact (h.tags.other (Ne.symm h.bt) _).set j _
    pb := h.pb
    pt := h.pt
    bt := h.bt
    isB := fun y hy => by
      rcases List.mem_or_eq_of_mem_set hy with h' | rfl
      · exact h.isB y h'
      · exact hz
    len := by rw [List.length_set, List.length_set]; exact h.len
    most := by rw [List.length_set]; exact h.most
    capb := by rw [List.length_set]; exact h.capb
    capt := by rw [List.length_set]; exact h.capt }
theorem RMem.other {w : World} {p gb gt cb ct : Nat} {bs : List Int} {ts : List Bool} (h : RMem w p gb gt cb ct bs ts) {a : Addr} (h1 : p ≠ a.block) (h2 : gb ≠ a.block) (h3 : gt ≠ a.block) (v : Value) : RMem (w.setCell a v) p gb gt cb ct bs ts :=
  { h with box := h.box.other h1 v, bytes := h.bytes.other h2 v, tags := h.tags.other h3 v }
/-- So many bytes lie at v (a slice, nil too), in a block that S does not hold of. -/
def Lies (w : World) (v : Value) (xs : List Int) (S : Nat → Prop) : Prop :=
  ∃ ad cs, v = .slice ad xs.length cs ∧ xs.length ≤ cs ∧ cs ≤ 9223372036854775807 ∧ ∀ k, k < xs.length → ∃ b off, ad = some ⟨b, off, none⟩ ∧ ¬ S b ∧ b < w.heap.size ∧ w.cell? ⟨b, off + k, none⟩ = some (.int .u8 (xs.getD k 0))
theorem Lies.keep {w w' : World} {v : Value} {xs : List Int} {S : Nat → Prop} (h : Lies w v xs S) (k : Keep w w') : Lies w' v xs S := by
  obtain ⟨ad, cs, h1, h2, h3, h4⟩ := h
  refine ⟨ad, cs, h1, h2, h3, fun j hj => ?_⟩
  obtain ⟨b, off, e, hs, hl, hc⟩ := h4 j hj
  exact ⟨b, off, e, hs, Nat.lt_of_lt_of_le hl k.size, k.cellOf hc⟩
theorem Lies.but {w w' : World} {v : Value} {xs : List Int} {S T : Nat → Prop} (h : Lies w v xs S) (k : KeepBut T w w') (hT : ∀ b, T b → S b) : Lies w' v xs S := by
  obtain ⟨ad, cs, h1, h2, h3, h4⟩ := h
  refine ⟨ad, cs, h1, h2, h3, fun j hj => ?_⟩
  obtain ⟨b, off, e, hs, hl, hc⟩ := h4 j hj
  exact ⟨b, off, e, hs, Nat.lt_of_lt_of_le hl k.size, by rw [World.cell?_of_block (k.block b hl fun ht => hs (hT b ht))]; exact hc⟩
theorem Lies.less {w : World} {v : Value} {xs : List Int} {S T : Nat → Prop} (h : Lies w v xs S) (hT : ∀ b, b < w.heap.size → T b → S b) : Lies w v xs T := by
  obtain ⟨ad, cs, h1, h2, h3, h4⟩ := h
  refine ⟨ad, cs, h1, h2, h3, fun j hj => ?_⟩
  obtain ⟨b, off, e, hs, hl, hc⟩ := h4 j hj
  exact ⟨b, off, e, fun ht => hs (hT b hl ht), hl, hc⟩
set_option maxHeartbeats 1000000 in
theorem rstore_bad (p gb gt cb ct : Nat) (bs : List Int) (ts : List Bool) (a : Int) (ha : -9223372036854775808 ≤ a ∧ a ≤ 9223372036854775807) (ad : Option Addr) (N cs : Nat) (hN : N ≤ 9223372036854775807) (w : World) (h : RMem w p gb gt cb ct bs ts) (hr : reachB a N bs.length = false) :
    Calls Tryd.prog 12 #[.pointer (some ⟨p, 0, none⟩), .int .i64 a, .slice ad N cs] w fun e w' => e = .returned (rangeV a) ∧ Keep w w' := by
  have C := Lib.hid (fun W (k : Keep w W) => rreach_any p gb gt cb ct bs ts a N ha (by omega) W (h.keep k))
  have R : reachV a N bs.length = rangeV a := by unfold reachV; rw [hr]; rfl
  rw [R, bad_err] at C
  rw [bad_err]
  clear R h hr ha
  go_enter Tryd.func12, Tryd.ntmps12
  go_wp2_with fail
  refine (C.out _ ((Keep.refl _).alloc _)).mono ?_
  rintro e w1 ⟨rfl, hk1⟩
  have B0 : Box w1 w.heap.size _ := (Box.new _ _ _).keep hk1
  have l0 := B0.lt
  have c0 := B0.cells
  have f0 := B0.thawed
  go_wp2_with fail
  refine bodyPost_ret (v := .agg #[.string ⟨#[109, 101, 109]⟩, .int .i64 a, .int .i64 6]) (by simp [results, Tryd.results12, go_sem, c0, l0]) rfl ⟨rfl, ?_⟩
  refine Keep.alloc ?_ _
  repeat (with_reducible refine Keep.setCell ?_ (by simp) _)
  exact ((Keep.refl _).alloc _).trans hk1
set_option maxRecDepth 100000 in
set_option maxHeartbeats 1000000 in
theorem rstore_ok (p gb gt cb ct : Nat) (bs : List Int) (ts : List Bool) (A : Nat) (v : Value) (xs : List Int) (hx : ∀ z ∈ xs, IsByte z) (hAN : A + xs.length ≤ bs.length) (w : World) (h : RMem w p gb gt cb ct bs ts) (hv : Lies w v xs (ownsM gb gt)) :
    Calls Tryd.prog 12 #[.pointer (some ⟨p, 0, none⟩), .int .i64 A, v] w fun e w' => e = .returned okV ∧ RMem w' p gb gt cb ct (putAt bs A xs) (offAt ts A xs.length) ∧ KeepBut (ownsM gb gt) w w' := by
  have hM := h.most
  have C := Lib.hid (fun W (k : Keep w W) => rreach_any p gb gt cb ct bs ts A xs.length (by omega) (by omega) W (h.keep k))
  have R : reachV A xs.length bs.length = okV := by unfold reachV; rw [if_pos (by simp [reachB]; omega)]
  rw [R] at C
  unfold okV wrongV at C ⊢
  obtain ⟨ad, cs', hvv, _, _, hcell⟩ := hv
  clear R
  subst hvv
  obtain ⟨N, hNe⟩ : ∃ N, N = xs.length := ⟨_, rfl⟩
  rw [← hNe] at hAN C hcell ⊢
  have HM := Lib.hid h
  have HC := Lib.hid hcell
  have HX := Lib.hid hx
  have HN := Lib.hid hNe
  have lp := h.box.lt
  clear h hcell hx hNe
  have n63 : (N : Int) ≤ 9223372036854775807 := by omega
  go_enter Tryd.func12, Tryd.ntmps12
  go_wp2_with fail
  refine (C.out _ ((Keep.refl _).alloc _)).mono ?_
  rintro e w1 ⟨rfl, hk1⟩
  have B0 : Box w1 w.heap.size _ := (Box.new _ _ _).keep hk1
  have l0 := B0.lt
  have c0 := B0.cells
  have f0 := B0.thawed
  go_wp2_with fail
  go_loopw [8] (fun i wr => ∃ k : Nat, k ≤ N ∧ i = .int .i64 (k : Int) ∧ RMem wr p gb gt cb ct (putAt bs A (xs.take k)) (offAt ts A k) ∧ KeepBut (ownsM gb gt) w wr ∧ Box wr w.heap.size #[.string ⟨#[]⟩, .int .i64 0, .int .i64 0]) (fun i _ => N - (intOf i).toNat)
  case atStart =>
    exact ⟨0, Nat.zero_le _, rfl, HM.out.keep ((((Keep.refl _).alloc _).trans hk1).alloc _), ((((Keep.refl _).alloc _).trans hk1).alloc _).but _, B0.alloc _⟩
  case round =>
    clear c0 f0 l0 B0 hk1 C
    obtain ⟨k, hk, rfl, hR, hK, hB⟩ := hrel
    have k0 : (0 : Int) ≤ (k : Int) := Int.natCast_nonneg _
    have k63 : (k : Int) ≤ 9223372036854775807 := by omega
    by_cases h : k < N
    · have hkN : (k : Int) < (N : Int) := by omega
      obtain ⟨b, off, rfl, hnb, hbl, hc⟩ := HC.out k h
      have hcell : wr.cell? ⟨b, off + k, none⟩ = some (.int .u8 (xs.getD k 0)) := by
        rw [World.cell?_of_block (hK.block b hbl hnb)]
        exact hc
      obtain ⟨z, hz⟩ : ∃ z, z = xs.getD k 0 := ⟨_, rfl⟩
      rw [← hz] at hcell
      have HS := Lib.hid (putAt_step xs bs A k (by rw [← HN.out]; exact h))
      have HT := Lib.hid (offAt_step k ts A)
      have hlen := hR.len
      rw [putAt_length, offAt_length] at hlen
      have hLb : (putAt bs A (xs.take k)).length = bs.length := putAt_length _ _ _
      have hLt : (offAt ts A k).length = ts.length := offAt_length _ _ _
      obtain ⟨bk, hbk⟩ : ∃ bk, bk = putAt bs A (xs.take k) := ⟨_, rfl⟩
      obtain ⟨tk, htk⟩ : ∃ tk, tk = offAt ts A k := ⟨_, rfl⟩
      rw [← hbk] at hR hLb HS
      rw [← htk] at hR hLt HT
      rw [← hz] at HS
      have HZ : Hid (IsByte z) := Lib.hid (by
        have hkx : k < xs.length := by rw [← HN.out]; exact h
        rw [hz, List.getD_eq_getElem?_getD, List.getElem?_eq_getElem hkx]
        exact HX.out _ (List.getElem_mem hkx))
      have HR := Lib.hid hR
      have HK := Lib.hid hK
      have hp0 := hR.box.cells
      have lpr := hR.box.lt
      rw [hLb, hLt] at hp0
      have ht : ((A : Int) + (k : Int)).toNat = A + k := by omega
      have a4 : (A + k) / 16 < ts.length := by omega
      clear hc hz hbk htk hR hK hlen
      have hA : IntKind.i64.wrap ((A : Int) + (k : Int)) = (A : Int) + (k : Int) := by rw [IntKind.wrap_i64]; omega
      have a1 : (0 : Int) ≤ (A : Int) + (k : Int) := by omega
      have a2 : (A : Int) + (k : Int) < (bs.length : Int) := by omega
      go_wp2_with fail
      refine region_grows_tail 12 (Keep _) (by kernel_rfl) (by kernel_rfl) (Keep.refl _).drew ?_
      simp only [List.take_succ_cons, List.take_zero, List.drop_succ_cons, List.drop_zero]
      repeat (first
        | (apply text_step (by rfl)
           · intro W hW
             have c1 := ((HR.out.keep hW).box).cells
             rw [hLb, hLt] at c1
             have c2 := hW.cellOf hcell
             go_simp
             exact ⟨rfl, hW⟩
           go_simp))
      apply text_end
      intro W hW
      have RW := HR.out.keep hW
      have g0 : W.cell? ⟨gb, A + k, none⟩ = some (.int .u8 (bk.getD (A + k) 0)) := by
        rw [RW.bytes.cells]
        have : A + k < bk.length := by rw [hLb]; omega
        simp [u8s, List.getD_eq_getElem?_getD, List.getElem?_eq_getElem this]
      have gf := RW.bytes.thawed
      have g1 := RW.box.cells
      have lpW := RW.box.lt
      rw [hLb, hLt] at g1
      have g2 : W.cell? ⟨gt, (A + k) / 16, none⟩ = some (.bool (tk.getD ((A + k) / 16) false)) := by
        rw [RW.tags.cells]
        have : (A + k) / 16 < tk.length := by rw [hLt]; omega
        simp [bls, List.getD_eq_getElem?_getD, List.getElem?_eq_getElem this]
      have gg := RW.tags.thawed
      have n1 := RW.pb
      have n2 := RW.pt
      have n3 := RW.bt
      clear hp0 lpr
      have HW := Lib.hid hW
      have HRW := Lib.hid RW
      clear hW RW
      go_wp2_with fail
      have lb := HM.out.bytes.lt
      have lt := HM.out.tags.lt
      refine ⟨⟨k + 1, h, by simp, ?_, ?_, ?_⟩, ?_⟩
      · rw [HS.out, HT.out]
        exact HRW.out.set _ _ HZ.out _ _
      · exact ((HK.out.trans (HW.out.but _)).setCell (.inl (.inl rfl)) _).setCell (.inl (.inr rfl)) _
      · exact ((hB.keep HW.out).other (show w.heap.size ≠ gb by omega) _).other (show w.heap.size ≠ gt by omega) _
      · simp [intOf]; omega
    · obtain rfl : k = N := by omega
      have b0 := hB.cells
      have bf := hB.thawed
      have bl := hB.lt
      have HR := Lib.hid hR
      have HK := Lib.hid hK
      clear hR hK
      go_wp2_with fail
      have lb := HM.out.bytes.lt
      have lt := HM.out.tags.lt
      have n1 : p ≠ w.heap.size := by omega
      have n2 : gb ≠ w.heap.size := by omega
      have n3 : gt ≠ w.heap.size := by omega
      have ex : xs.take k = xs := by rw [HN.out]; exact List.take_length
      refine bodyPost_ret (v := .agg #[.string ⟨#[]⟩, .int .i64 0, .int .i64 0]) (by simp [results, Tryd.results12, go_sem, b0]) rfl ⟨rfl, ?_, ?_⟩
      · have hR := HR.out
        rw [ex] at hR
        exact ((hR.other n1 n2 n3 _).other n1 n2 n3 _).other n1 n2 n3 _
      · exact ((HK.out.setCell (.inr (Nat.le_refl _)) _).setCell (.inr (Nat.le_refl _)) _).setCell (.inr (Nat.le_refl _)) _
/-- Store: so many bytes written, their granules without a tag; or the error, and nothing changes. -/
theorem rstore_any (p gb gt cb ct : Nat) (bs : List Int) (ts : List Bool) (a : Int) (ha : -9223372036854775808 ≤ a ∧ a ≤ 9223372036854775807) (v : Value) (xs : List Int) (hx : ∀ z ∈ xs, IsByte z) (hl : xs.length ≤ 9223372036854775807) (w : World) (h : RMem w p gb gt cb ct bs ts) (hv : Lies w v xs (ownsM gb gt)) :
    Calls Tryd.prog 12 #[.pointer (some ⟨p, 0, none⟩), .int .i64 a, v] w fun e w' =>
      (reachB a xs.length bs.length = false ∧ e = .returned (rangeV a) ∧ Keep w w') ∨
      (reachB a xs.length bs.length = true ∧ e = .returned okV ∧ RMem w' p gb gt cb ct (putAt bs a.toNat xs) (offAt ts a.toNat xs.length) ∧ KeepBut (ownsM gb gt) w w') := by
  cases hr : reachB a xs.length bs.length
  · obtain ⟨ad, cs', rfl, _⟩ := hv
    exact (rstore_bad p gb gt cb ct bs ts a ha ad xs.length cs' hl w h hr).mono fun e w' h => .inl ⟨by simp, h⟩
  · obtain ⟨r0, r1, r2⟩ := reachB_true hr
    obtain ⟨A, rfl⟩ := Int.eq_ofNat_of_zero_le r0
    simp only [Int.toNat_natCast]
    exact (rstore_ok p gb gt cb ct bs ts A v xs hx (by omega) w h hv).mono fun e w' h => .inr ⟨by simp, h⟩
end Go.Proofs.YtnnelghngekbpaaDoor
