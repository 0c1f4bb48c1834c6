/- The reference's unary: a sign ahead, brackets, given what is read deeper. -/
import Derived.Test.YtockkidbncpdlaaGreatDoorEvAtom
namespace Go.Proofs.YtockkidbncpdlaaGreatDoor
set_option linter.unusedVariables false
set_option linter.unusedSimpArgs false
open Go.RowKit
theorem boundE_getD (n : Int) : InB ((boundE n).getD 0) := by
  unfold boundE lxBig InB
  split
  · simp
  · simp; omega
theorem Rdr.Bad.next {r : Rdr} {w : World} {pl e : Int} (h : r.Bad w pl e) (b : Int) : r.Bad (w.setCell ⟨r.b, 1, none⟩ (.int .i64 b)) pl e := by
  obtain ⟨he, a, h⟩ := h
  refine ⟨he, b, ?_⟩
  unfold Rdr.cells at h ⊢
  simpa using Box.set h 1 (.int .i64 b)
theorem Rdr.Bad.keep {r : Rdr} {w w' : World} {pl e : Int} (h : r.Bad w pl e) (k : Keep w w') : r.Bad w' pl e := by
  obtain ⟨he, a, h⟩ := h
  exact ⟨he, a, h.keep k⟩
theorem boundE_in {n m : Int} (h : boundE n = some m) : m = n ∧ InB m := by
  unfold boundE lxBig at h
  split at h
  · cases h
  · cases h; exact ⟨rfl, by unfold InB; omega⟩
set_option maxHeartbeats 2000000 in
set_option maxRecDepth 100000 in
theorem runary_long_sSub (r : Rdr) (at_ d : Nat) (w : World) (hr : r.In w) (ho : r.Ok w at_) (ha : at_ ≤ r.toks.length) (hd : d ≤ 17) (hs : signAt r.toks at_ unS = some sSub) (hd2 : 16 < d) :
    Calls Tryz.prog 30 #[.pointer (some ⟨r.b, 0, none⟩), .int .i64 d] w (EvPost r (.un at_) d w) := by
  have HS := Lib.hid hs
  have HR := Lib.hid hr
  have HO := Lib.hid ho
  have few := hr.few
  have c0 := ho.cells
  unfold Rdr.cells at c0
  have hlt : at_ < r.toks.length := by
    obtain ⟨t, ht, _⟩ := signAt_kind hs
    exact (List.getElem?_eq_some_iff.1 ht).1
  clear hs hr ho
  have hd3 : (16 : Int) < (d : Int) := by omega
  go_enter Tryz.func30, Tryz.ntmps30
  go_wp2_with fail
  refine (rsign_ok r at_ w.heap.size unS _ (HR.out.keep ((Keep.refl _).alloc _)) (Box.alloc HO.out _) (unS_box _) (by decide)).mono ?_
  rintro e w1 ⟨rfl, hk1⟩
  rw [HS.out]
  dsimp only [Option.getD_some]
  have K1 := Lib.hid (((Keep.refl _).alloc _).trans hk1)
  have b1 : r.Ok w1 at_ := Box.keep HO.out K1.out
  have O1 := Lib.hid b1
  have CF := Lib.hid (rfail_ok r _ at_ 15 (by decide) w1 b1)
  have c1 := b1.cells
  have f1 := b1.thawed
  unfold Rdr.cells at c1
  clear c0 b1 hk1
  unfold sSub
  go_wp2_with fail
  refine CF.out.mono ?_
  rintro e w4 ⟨rfl, hk4, hb4⟩
  have H4 := Lib.hid hk4
  have B4 := Lib.hid hb4
  clear hk4 hb4 c1
  go_wp2_with fail
  go_ret
  exact EvPost.bad (p := at_) (.long HS.out hd2) InB.zero ((K1.out.but _).trans H4.out) B4.out
set_option maxHeartbeats 2000000 in
set_option maxRecDepth 100000 in
theorem runary_long_sNot (r : Rdr) (at_ d : Nat) (w : World) (hr : r.In w) (ho : r.Ok w at_) (ha : at_ ≤ r.toks.length) (hd : d ≤ 17) (hs : signAt r.toks at_ unS = some sNot) (hd2 : 16 < d) :
    Calls Tryz.prog 30 #[.pointer (some ⟨r.b, 0, none⟩), .int .i64 d] w (EvPost r (.un at_) d w) := by
  have HS := Lib.hid hs
  have HR := Lib.hid hr
  have HO := Lib.hid ho
  have few := hr.few
  have c0 := ho.cells
  unfold Rdr.cells at c0
  have hlt : at_ < r.toks.length := by
    obtain ⟨t, ht, _⟩ := signAt_kind hs
    exact (List.getElem?_eq_some_iff.1 ht).1
  clear hs hr ho
  have hd3 : (16 : Int) < (d : Int) := by omega
  go_enter Tryz.func30, Tryz.ntmps30
  go_wp2_with fail
  refine (rsign_ok r at_ w.heap.size unS _ (HR.out.keep ((Keep.refl _).alloc _)) (Box.alloc HO.out _) (unS_box _) (by decide)).mono ?_
  rintro e w1 ⟨rfl, hk1⟩
  rw [HS.out]
  dsimp only [Option.getD_some]
  have K1 := Lib.hid (((Keep.refl _).alloc _).trans hk1)
  have b1 : r.Ok w1 at_ := Box.keep HO.out K1.out
  have O1 := Lib.hid b1
  have CF := Lib.hid (rfail_ok r _ at_ 15 (by decide) w1 b1)
  have c1 := b1.cells
  have f1 := b1.thawed
  unfold Rdr.cells at c1
  clear c0 b1 hk1
  unfold sNot
  go_wp2_with fail
  refine CF.out.mono ?_
  rintro e w4 ⟨rfl, hk4, hb4⟩
  have H4 := Lib.hid hk4
  have B4 := Lib.hid hb4
  clear hk4 hb4 c1
  go_wp2_with fail
  go_ret
  exact EvPost.bad (p := at_) (.long HS.out hd2) InB.zero ((K1.out.but _).trans H4.out) B4.out
set_option maxHeartbeats 2000000 in
set_option maxRecDepth 100000 in
theorem runary_long_sOpen (r : Rdr) (at_ d : Nat) (w : World) (hr : r.In w) (ho : r.Ok w at_) (ha : at_ ≤ r.toks.length) (hd : d ≤ 17) (hs : signAt r.toks at_ unS = some sOpen) (hd2 : 16 < d) :
    Calls Tryz.prog 30 #[.pointer (some ⟨r.b, 0, none⟩), .int .i64 d] w (EvPost r (.un at_) d w) := by
  have HS := Lib.hid hs
  have HR := Lib.hid hr
  have HO := Lib.hid ho
  have few := hr.few
  have c0 := ho.cells
  unfold Rdr.cells at c0
  have hlt : at_ < r.toks.length := by
    obtain ⟨t, ht, _⟩ := signAt_kind hs
    exact (List.getElem?_eq_some_iff.1 ht).1
  clear hs hr ho
  have hd3 : (16 : Int) < (d : Int) := by omega
  go_enter Tryz.func30, Tryz.ntmps30
  go_wp2_with fail
  refine (rsign_ok r at_ w.heap.size unS _ (HR.out.keep ((Keep.refl _).alloc _)) (Box.alloc HO.out _) (unS_box _) (by decide)).mono ?_
  rintro e w1 ⟨rfl, hk1⟩
  rw [HS.out]
  dsimp only [Option.getD_some]
  have K1 := Lib.hid (((Keep.refl _).alloc _).trans hk1)
  have b1 : r.Ok w1 at_ := Box.keep HO.out K1.out
  have O1 := Lib.hid b1
  have CF := Lib.hid (rfail_ok r _ at_ 15 (by decide) w1 b1)
  have c1 := b1.cells
  have f1 := b1.thawed
  unfold Rdr.cells at c1
  clear c0 b1 hk1
  unfold sOpen
  go_wp2_with fail
  refine CF.out.mono ?_
  rintro e w4 ⟨rfl, hk4, hb4⟩
  have H4 := Lib.hid hk4
  have B4 := Lib.hid hb4
  clear hk4 hb4 c1
  go_wp2_with fail
  go_ret
  exact EvPost.bad (p := at_) (.long HS.out hd2) InB.zero ((K1.out.but _).trans H4.out) B4.out
set_option maxHeartbeats 2000000 in
set_option maxRecDepth 100000 in
theorem runary_neg (r : Rdr) (at_ d : Nat) (w : World) (hr : r.In w) (ho : r.Ok w at_) (ha : at_ ≤ r.toks.length) (hd : d ≤ 17) (hs : signAt r.toks at_ unS = some sSub) (hd2 : d ≤ 16)
    (IH : ∀ w', r.In w' → r.Ok w' ((at_ + 1 : Nat) : Int) → Calls Tryz.prog 30 #[.pointer (some ⟨r.b, 0, none⟩), .int .i64 ((d : Int) + 1)] w' (EvPost r (.un (at_ + 1)) (d + 1) w')) :
    Calls Tryz.prog 30 #[.pointer (some ⟨r.b, 0, none⟩), .int .i64 d] w (EvPost r (.un at_) d w) := by
  have HS := Lib.hid hs
  have HR := Lib.hid hr
  have HO := Lib.hid ho
  have few := hr.few
  have c0 := ho.cells
  unfold Rdr.cells at c0
  have hlt : at_ < r.toks.length := by
    obtain ⟨t, ht, _⟩ := signAt_kind hs
    exact (List.getElem?_eq_some_iff.1 ht).1
  clear hs hr ho
  have hd3 : (d : Int) ≤ 16 := by omega
  have hd4 : decide (16 < (d : Int)) = false := decide_eq_false (by omega)
  go_enter Tryz.func30, Tryz.ntmps30
  go_wp2_with fail
  refine (rsign_ok r at_ w.heap.size unS _ (HR.out.keep ((Keep.refl _).alloc _)) (Box.alloc HO.out _) (unS_box _) (by decide)).mono ?_
  rintro e w1 ⟨rfl, hk1⟩
  rw [HS.out]
  dsimp only [Option.getD_some]
  have K1 := Lib.hid (((Keep.refl _).alloc _).trans hk1)
  have b1 : r.Ok w1 at_ := Box.keep HO.out K1.out
  have O1 := Lib.hid b1
  have c1 := b1.cells
  have f1 := b1.thawed
  unfold Rdr.cells at c1
  clear c0 b1 hk1
  unfold sSub
  go_wp2_with fail
  obtain ⟨W2, hW2⟩ : ∃ W2, W2 = w1.setCell ⟨r.b, 1, none⟩ (.int .i64 ((at_ : Int) + 1)) := ⟨_, rfl⟩
  rw [← hW2]
  have o2 : r.Ok W2 ((at_ + 1 : Nat) : Int) := by rw [hW2]; simpa using O1.out.next ((at_ : Int) + 1)
  have K2b : KeepBut (fun z => z = r.b) w W2 := by rw [hW2]; exact KeepBut.setAt (S := fun z => z = r.b) (.inl rfl) (K1.out.but _) _
  have KB := Lib.hid K2b
  have CU := Lib.hid (IH W2 (HR.out.but K2b) o2)
  clear hW2 o2 K2b c1 f1
  refine CU.out.mono ?_
  rintro e w3 ⟨hk3, ⟨n, p, hev, rfl, hn, hp1, hp2, ho3⟩ | ⟨p, x, v, hev, rfl, hv, hb3⟩⟩
  · have K3 := Lib.hid hk3
    have EV := Lib.hid hev
    have PB := Lib.hid (And.intro hp1 hp2)
    have O3 := Lib.hid ho3
    obtain ⟨n0, n1⟩ := hn
    have pr : preE sSub n = -n := by unfold preE; rw [if_pos rfl]; omega
    have PR := Lib.hid pr
    have CB := Lib.hid (rbound_any r _ (-n) at_ w3 ho3)
    clear hk3 hev hp1 hp2 ho3 pr
    go_wp2_with fail
    refine CB.out.mono ?_
    intro e w4 hj
    cases hbn : boundE (-n) with
    | none =>
      have HB2 := Lib.hid hbn
      rw [hbn] at hj
      obtain ⟨rfl, hk4, hb4⟩ := hj
      have H4 := Lib.hid hk4
      have B4 := Lib.hid hb4
      clear hbn hk4 hb4
      go_wp2_with fail
      go_ret
      exact EvPost.bad (p := at_) (.negOver HS.out (by decide) hd2 EV.out (by rw [PR.out]; exact HB2.out)) InB.zero ((KB.out.trans K3.out).trans H4.out) B4.out
    | some m =>
      have HB2 := Lib.hid hbn
      rw [hbn] at hj
      obtain ⟨rfl, rfl⟩ := hj
      clear hbn
      go_wp2_with fail
      go_ret
      refine EvPost.ok (.neg HS.out (by decide) hd2 EV.out (by rw [PR.out]; exact HB2.out)) (boundE_in HB2.out).2 ?_ PB.out.2 (KB.out.trans K3.out) O3.out
      have := PB.out.1
      simp only [EvM.at_] at this ⊢
      omega
  · have K3 := Lib.hid hk3
    have EV := Lib.hid hev
    have B3 := Lib.hid hb3
    obtain ⟨n0, n1⟩ := hv
    have CB := Lib.hid (rbound_bad r (-v) at_ p x w3 hb3)
    clear hk3 hev hb3
    go_wp2_with fail
    refine CB.out.mono ?_
    rintro e w4 ⟨rfl, rfl⟩
    go_wp2_with fail
    go_ret
    exact EvPost.bad (.negBad HS.out (by decide) hd2 EV.out) (boundE_getD _) (KB.out.trans K3.out) B3.out
set_option maxHeartbeats 2000000 in
set_option maxRecDepth 100000 in
theorem runary_inv (r : Rdr) (at_ d : Nat) (w : World) (hr : r.In w) (ho : r.Ok w at_) (ha : at_ ≤ r.toks.length) (hd : d ≤ 17) (hs : signAt r.toks at_ unS = some sNot) (hd2 : d ≤ 16)
    (IH : ∀ w', r.In w' → r.Ok w' ((at_ + 1 : Nat) : Int) → Calls Tryz.prog 30 #[.pointer (some ⟨r.b, 0, none⟩), .int .i64 ((d : Int) + 1)] w' (EvPost r (.un (at_ + 1)) (d + 1) w')) :
    Calls Tryz.prog 30 #[.pointer (some ⟨r.b, 0, none⟩), .int .i64 d] w (EvPost r (.un at_) d w) := by
  have HS := Lib.hid hs
  have HR := Lib.hid hr
  have HO := Lib.hid ho
  have few := hr.few
  have c0 := ho.cells
  unfold Rdr.cells at c0
  have hlt : at_ < r.toks.length := by
    obtain ⟨t, ht, _⟩ := signAt_kind hs
    exact (List.getElem?_eq_some_iff.1 ht).1
  clear hs hr ho
  have hd3 : (d : Int) ≤ 16 := by omega
  have hd4 : decide (16 < (d : Int)) = false := decide_eq_false (by omega)
  go_enter Tryz.func30, Tryz.ntmps30
  go_wp2_with fail
  refine (rsign_ok r at_ w.heap.size unS _ (HR.out.keep ((Keep.refl _).alloc _)) (Box.alloc HO.out _) (unS_box _) (by decide)).mono ?_
  rintro e w1 ⟨rfl, hk1⟩
  rw [HS.out]
  dsimp only [Option.getD_some]
  have K1 := Lib.hid (((Keep.refl _).alloc _).trans hk1)
  have b1 : r.Ok w1 at_ := Box.keep HO.out K1.out
  have O1 := Lib.hid b1
  have c1 := b1.cells
  have f1 := b1.thawed
  unfold Rdr.cells at c1
  clear c0 b1 hk1
  unfold sNot
  go_wp2_with fail
  obtain ⟨W2, hW2⟩ : ∃ W2, W2 = w1.setCell ⟨r.b, 1, none⟩ (.int .i64 ((at_ : Int) + 1)) := ⟨_, rfl⟩
  rw [← hW2]
  have o2 : r.Ok W2 ((at_ + 1 : Nat) : Int) := by rw [hW2]; simpa using O1.out.next ((at_ : Int) + 1)
  have K2b : KeepBut (fun z => z = r.b) w W2 := by rw [hW2]; exact KeepBut.setAt (S := fun z => z = r.b) (.inl rfl) (K1.out.but _) _
  have KB := Lib.hid K2b
  have CU := Lib.hid (IH W2 (HR.out.but K2b) o2)
  clear hW2 o2 K2b c1 f1
  refine CU.out.mono ?_
  rintro e w3 ⟨hk3, ⟨n, p, hev, rfl, hn, hp1, hp2, ho3⟩ | ⟨p, x, v, hev, rfl, hv, hb3⟩⟩
  · have K3 := Lib.hid hk3
    have EV := Lib.hid hev
    have PB := Lib.hid (And.intro hp1 hp2)
    have O3 := Lib.hid ho3
    obtain ⟨n0, n1⟩ := hn
    have pr : preE sNot n = -n - 1 := by unfold preE; rw [if_neg (by decide)]; omega
    have PR := Lib.hid pr
    have CB := Lib.hid (rbound_any r _ (-n - 1) at_ w3 ho3)
    clear hk3 hev hp1 hp2 ho3 pr
    go_wp2_with fail
    refine CB.out.mono ?_
    intro e w4 hj
    cases hbn : boundE (-n - 1) with
    | none =>
      have HB2 := Lib.hid hbn
      rw [hbn] at hj
      obtain ⟨rfl, hk4, hb4⟩ := hj
      have H4 := Lib.hid hk4
      have B4 := Lib.hid hb4
      clear hbn hk4 hb4
      go_wp2_with fail
      go_ret
      exact EvPost.bad (p := at_) (.negOver HS.out (by decide) hd2 EV.out (by rw [PR.out]; exact HB2.out)) InB.zero ((KB.out.trans K3.out).trans H4.out) B4.out
    | some m =>
      have HB2 := Lib.hid hbn
      rw [hbn] at hj
      obtain ⟨rfl, rfl⟩ := hj
      clear hbn
      go_wp2_with fail
      go_ret
      refine EvPost.ok (.neg HS.out (by decide) hd2 EV.out (by rw [PR.out]; exact HB2.out)) (boundE_in HB2.out).2 ?_ PB.out.2 (KB.out.trans K3.out) O3.out
      have := PB.out.1
      simp only [EvM.at_] at this ⊢
      omega
  · have K3 := Lib.hid hk3
    have EV := Lib.hid hev
    have B3 := Lib.hid hb3
    obtain ⟨n0, n1⟩ := hv
    have CB := Lib.hid (rbound_bad r (-v - 1) at_ p x w3 hb3)
    clear hk3 hev hb3
    go_wp2_with fail
    refine CB.out.mono ?_
    rintro e w4 ⟨rfl, rfl⟩
    go_wp2_with fail
    go_ret
    exact EvPost.bad (.negBad HS.out (by decide) hd2 EV.out) (boundE_getD _) (KB.out.trans K3.out) B3.out
set_option maxHeartbeats 2000000 in
set_option maxRecDepth 100000 in
theorem runary_par (r : Rdr) (at_ d : Nat) (w : World) (hr : r.In w) (ho : r.Ok w at_) (ha : at_ ≤ r.toks.length) (hd : d ≤ 17) (hs : signAt r.toks at_ unS = some sOpen) (hd2 : d ≤ 16)
    (IH : ∀ w', r.In w' → r.Ok w' ((at_ + 1 : Nat) : Int) → Calls Tryz.prog 14 #[.pointer (some ⟨r.b, 0, none⟩), .int .i64 0, .int .i64 ((d : Int) + 1)] w' (EvPost r (.lev 0 (at_ + 1)) (d + 1) w')) :
    Calls Tryz.prog 30 #[.pointer (some ⟨r.b, 0, none⟩), .int .i64 d] w (EvPost r (.un at_) d w) := by
  have HS := Lib.hid hs
  have HR := Lib.hid hr
  have HO := Lib.hid ho
  have few := hr.few
  have c0 := ho.cells
  unfold Rdr.cells at c0
  have hlt : at_ < r.toks.length := by
    obtain ⟨t, ht, _⟩ := signAt_kind hs
    exact (List.getElem?_eq_some_iff.1 ht).1
  clear hs hr ho
  have hd3 : (d : Int) ≤ 16 := by omega
  have hd4 : decide (16 < (d : Int)) = false := decide_eq_false (by omega)
  go_enter Tryz.func30, Tryz.ntmps30
  go_wp2_with fail
  refine (rsign_ok r at_ w.heap.size unS _ (HR.out.keep ((Keep.refl _).alloc _)) (Box.alloc HO.out _) (unS_box _) (by decide)).mono ?_
  rintro e w1 ⟨rfl, hk1⟩
  rw [HS.out]
  dsimp only [Option.getD_some]
  have K1 := Lib.hid (((Keep.refl _).alloc _).trans hk1)
  have b1 : r.Ok w1 at_ := Box.keep HO.out K1.out
  have O1 := Lib.hid b1
  have c1 := b1.cells
  have f1 := b1.thawed
  unfold Rdr.cells at c1
  clear c0 b1 hk1
  unfold sOpen
  go_wp2_with fail
  obtain ⟨W2, hW2⟩ : ∃ W2, W2 = w1.setCell ⟨r.b, 1, none⟩ (.int .i64 ((at_ : Int) + 1)) := ⟨_, rfl⟩
  rw [← hW2]
  have o2 : r.Ok W2 ((at_ + 1 : Nat) : Int) := by rw [hW2]; simpa using O1.out.next ((at_ : Int) + 1)
  have K2b : KeepBut (fun z => z = r.b) w W2 := by rw [hW2]; exact KeepBut.setAt (S := fun z => z = r.b) (.inl rfl) (K1.out.but _) _
  have KB := Lib.hid K2b
  have CU := Lib.hid (IH W2 (HR.out.but K2b) o2)
  clear hW2 o2 K2b c1 f1
  refine CU.out.mono ?_
  rintro e w3 ⟨hk3, ⟨n, p, hev, rfl, hn, hp1, hp2, ho3⟩ | ⟨p, x, v, hev, rfl, hv, hb3⟩⟩
  · have K3 := Lib.hid hk3
    have EV := Lib.hid hev
    have PB := Lib.hid (And.intro hp1 hp2)
    have O3 := Lib.hid ho3
    have HN := Lib.hid hn
    have KB3 := Lib.hid (KB.out.trans hk3)
    clear hk3 hev hp1 hp2 ho3 hn
    go_wp2_with fail
    refine (rsign_ok r p w3.heap.size [sShut] _ ((HR.out.but KB3.out).keep ((Keep.refl _).alloc _)) (Box.alloc O3.out _) (Box.new _ _ _) (by decide)).mono ?_
    rintro e w4 ⟨rfl, hk4⟩
    have K4 := Lib.hid (((Keep.refl _).alloc _).trans hk4)
    have o4 : r.Ok w4 p := Box.keep O3.out K4.out
    have O4 := Lib.hid o4
    have KB4 := Lib.hid (KB3.out.trans (K4.out.but (fun z => z = r.b)))
    cases hz : signAt r.toks p [sShut] with
    | none =>
      have HZ := Lib.hid hz
      dsimp only [Option.getD_none]
      have CF := Lib.hid (rfail_ok r _ p 11 (by decide) w4 o4)
      have c4 := o4.cells
      unfold Rdr.cells at c4
      clear hz o4 hk4
      go_wp2_with fail
      refine CF.out.mono ?_
      rintro e w5 ⟨rfl, hk5, hb5⟩
      have H5 := Lib.hid (KB4.out.trans hk5)
      have B5 := Lib.hid hb5
      obtain ⟨_, a5, hb5⟩ := hb5
      have c5 := hb5.cells
      have f5 := hb5.thawed
      unfold Rdr.cells at c5
      clear hk5 hb5 c4
      go_wp2_with fail
      go_ret
      exact EvPost.bad (.parForm HS.out hd2 EV.out HZ.out) HN.out (KeepBut.setAt (S := fun z => z = r.b) (.inl rfl) H5.out _) (B5.out.next _)
    | some s =>
      have HZ := Lib.hid hz
      have hse : s = sShut := by
        obtain ⟨_, _, _, _, hm⟩ := signAt_kind hz
        simp [inS] at hm
        exact hm.symm
      subst hse
      dsimp only [Option.getD_some]
      unfold sShut
      have c4 := o4.cells
      have f4 := o4.thawed
      unfold Rdr.cells at c4
      have plt : p < r.toks.length := by
        obtain ⟨t, ht, _⟩ := signAt_kind hz
        exact (List.getElem?_eq_some_iff.1 ht).1
      clear hz o4 hk4
      go_wp2_with fail
      go_ret
      refine EvPost.ok (.par HS.out hd2 EV.out HZ.out) HN.out ?_ plt (KeepBut.setAt (S := fun z => z = r.b) (.inl rfl) KB4.out _) ?_
      · have := PB.out.1
        simp only [EvM.at_] at this ⊢
        omega
      · have := O4.out.next ((p + 1 : Nat) : Int)
        simpa using this
  · have K3 := Lib.hid hk3
    have EV := Lib.hid hev
    have HV := Lib.hid hv
    have B3 := Lib.hid hb3
    have KB3 := Lib.hid (KB.out.trans hk3)
    clear hk3 hev hb3 hv
    go_wp2_with fail
    refine (rsign_bad r p x _ _ (B3.out.keep ((Keep.refl _).alloc _))).mono ?_
    rintro e w4 ⟨rfl, hk4⟩
    have K4 := Lib.hid (((Keep.refl _).alloc _).trans hk4)
    have b4 := B3.out.keep K4.out
    have B4 := Lib.hid b4
    have KB4 := Lib.hid (KB3.out.trans (K4.out.but (fun z => z = r.b)))
    have CF := Lib.hid (fun pl => rfail_bad r p x pl 11 w4 b4)
    obtain ⟨_, a4, hb4⟩ := b4
    have c4 := hb4.cells
    have f4 := hb4.thawed
    unfold Rdr.cells at c4
    clear hk4 hb4
    go_wp2_with fail
    refine (CF.out _).mono ?_
    rintro e w5 ⟨rfl, rfl⟩
    go_wp2_with fail
    go_ret
    exact EvPost.bad (.parBad HS.out hd2 EV.out) HV.out (KeepBut.setAt (S := fun z => z = r.b) (.inl rfl) KB4.out _) (B4.out.next _)
end Go.Proofs.YtockkidbncpdlaaGreatDoor
