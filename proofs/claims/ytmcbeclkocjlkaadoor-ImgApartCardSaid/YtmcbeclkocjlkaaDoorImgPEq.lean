/- slices.Equal at spans, inits, bytes, numbers. -/
import Derived.Test.YtmcbeclkocjlkaaDoorGRdrC
import Derived.Test.YtmcbeclkocjlkaaDoorImgAt
import Derived.Laws.StructEq
namespace Go.Proofs.YtmcbeclkocjlkaaDoor
set_option linter.unusedVariables false
set_option linter.unusedSimpArgs false
open Go Go.RowKit
def sameSp (s t : SpanV) : Bool := (s.at_ == t.at_) && (s.size == t.size)
theorem sameSp_iff (s t : SpanV) : sameSp s t = true ↔ s = t := by
  obtain ⟨a, b⟩ := s
  obtain ⟨a1, b1⟩ := t
  unfold sameSp
  simp
def sameIn (s t : InitV) : Bool := (s.comp == t.comp) && ((s.at_ == t.at_) && ((s.kind == t.kind) && ((s.data == t.data) && ((s.src == t.src) && ((s.addr == t.addr) && (s.perm == t.perm))))))
theorem sameIn_iff (s t : InitV) : sameIn s t = true ↔ s = t := by
  obtain ⟨a, b, c, d, e, f, g⟩ := s
  obtain ⟨a1, b1, c1, d1, e1, f1, g1⟩ := t
  unfold sameIn
  simp
theorem eqin_span (s t : SpanV) (w : World) : (Op.equalIn 10000 36 (.agg #[.int .u32 s.at_, .int .u32 s.size]) (.agg #[.int .u32 t.at_, .int .u32 t.size])).run Tryd.prog w = .ok (sameSp s t) w := by
  unfold sameSp
  cases h0 : (s.at_ == t.at_)
  · go_simp
  cases h1 : (s.size == t.size)
  · go_simp
  go_simp
theorem eqin_init (s t : InitV) (w : World) : (Op.equalIn 10000 43 (.agg #[.int .i64 s.comp, .int .u32 s.at_, .int .i64 s.kind, .bool s.data, .int .i64 s.src, .int .u32 s.addr, .int .u16 s.perm]) (.agg #[.int .i64 t.comp, .int .u32 t.at_, .int .i64 t.kind, .bool t.data, .int .i64 t.src, .int .u32 t.addr, .int .u16 t.perm])).run Tryd.prog w = .ok (sameIn s t) w := by
  unfold sameIn
  cases h0 : (s.comp == t.comp)
  · go_simp
  cases h1 : (s.at_ == t.at_)
  · go_simp
  cases h2 : (s.kind == t.kind)
  · go_simp
  cases h3 : (s.data == t.data)
  · go_simp
  cases h4 : (s.src == t.src)
  · go_simp
  cases h5 : (s.addr == t.addr)
  · go_simp
  cases h6 : (s.perm == t.perm)
  · go_simp
  go_simp
def uRow (x : Int) : List Value := [u32V x]
theorem map_urow (l : List Int) : l.map u32V = l.flatMap uRow := by
  induction l with
  | nil => rfl
  | cons x l ih => rw [List.map_cons, List.flatMap_cons, ih]; rfl
theorem int_iff (x y : Int) : (x == y) = true ↔ x = y := beq_iff_eq
set_option maxHeartbeats 4000000 in
set_option maxRecDepth 100000 in
theorem ipeq_S (l1 l2 : List SpanV) (v1 v2 : Value) (w : World) (h1 : SlAt w v1 l1.length (l1.flatMap spanRow)) (h2 : SlAt w v2 l2.length (l2.flatMap spanRow)) (f1 : l1.length ≤ 1000000) (f2 : l2.length ≤ 1000000) :
    Calls Tryd.prog 27 #[v1, v2] w (EqR l1 l2 w) := by
  obtain ⟨p1, c1, rfl, hc1, x1⟩ := SlAt.rowsEq (f := spanRow) (m := 2) (fun _ => rfl) (by decide) h1
  obtain ⟨p2, c2, rfl, hc2, x2⟩ := SlAt.rowsEq (f := spanRow) (m := 2) (fun _ => rfl) (by decide) h2
  clear h1 h2 hc1 hc2
  have X1 := Lib.hid x1
  have X2 := Lib.hid x2
  clear x1 x2
  obtain ⟨n, hn⟩ : ∃ n, n = l1.length := ⟨_, rfl⟩
  rw [← hn] at f1 ⊢
  have HN := Lib.hid hn
  by_cases hnm : n = l2.length
  · rw [← hnm]
    have HM := Lib.hid hnm
    clear f2 hn hnm
    go_enter Tryd.func27, Tryd.ntmps27
    go_wp2_with fail
    go_loopw [5, 13] (fun _ i wr => ∃ k : Nat, k ≤ n ∧ i = .int .i64 (k : Int) ∧ Keep w wr ∧ ∀ (j : Nat) (x y : SpanV), j < k → l1[j]? = some x → l2[j]? = some y → x = y) (fun _ i _ => n - (intOf i).toNat)
    case atStart => exact ⟨0, Nat.zero_le _, rfl, Keep.refl _, fun j _ _ hj => absurd hj (Nat.not_lt_zero _)⟩
    case round =>
      obtain ⟨k, hk, rfl, hK, heq⟩ := hrel
      have HQ := Lib.hid heq
      have HK := Lib.hid hK
      clear heq hK
      have k0 : (0 : Int) ≤ (k : Int) := Int.natCast_nonneg _
      by_cases hlt : k < n
      · have hkn : (k : Int) < (n : Int) := by omega
        obtain ⟨x, hx⟩ : ∃ x, l1[k]? = some x := ⟨_, List.getElem?_eq_getElem (by rw [← HN.out]; exact hlt)⟩
        obtain ⟨y, hy⟩ : ∃ y, l2[k]? = some y := ⟨_, List.getElem?_eq_getElem (by rw [← HM.out]; exact hlt)⟩
        rcases X1.out with hnil | ⟨b1, o1, rfl, hb1, y1⟩
        · rw [hnil] at hx; simp at hx
        rcases X2.out with hnil | ⟨b2, o2, rfl, hb2, y2⟩
        · rw [hnil] at hy; simp at hy
        have qx0 : Hid (wr.cell? ⟨b1, o1 + k * 2, none⟩ = some (.int .u32 x.at_)) := Lib.hid (by have := y1 k x hx 0 (by decide); rw [Nat.add_zero] at this; exact HK.out.cellOf this)
        have qx1 : Hid (wr.cell? ⟨b1, o1 + k * 2 + 1, none⟩ = some (.int .u32 x.size)) := Lib.hid (by have := y1 k x hx 1 (by decide); rw [← Nat.add_assoc] at this; exact HK.out.cellOf this)
        have qy0 : Hid (wr.cell? ⟨b2, o2 + k * 2, none⟩ = some (.int .u32 y.at_)) := Lib.hid (by have := y2 k y hy 0 (by decide); rw [Nat.add_zero] at this; exact HK.out.cellOf this)
        have qy1 : Hid (wr.cell? ⟨b2, o2 + k * 2 + 1, none⟩ = some (.int .u32 y.size)) := Lib.hid (by have := y2 k y hy 1 (by decide); rw [← Nat.add_assoc] at this; exact HK.out.cellOf this)
        have HX := Lib.hid hx
        have HY := Lib.hid hy
        have EQ := fun W => eqin_span x y W
        clear hx hy y1 y2
        rcases Bool.eq_false_or_eq_true (sameSp x y) with d | d
        · have hxy := Lib.hid ((sameSp_iff x y).1 d)
          rw [d] at EQ
          go_wp2_with fail
          refine region_grows (Keep wr) (by kernel_rfl) (by kernel_rfl) (Keep.refl _).drew ?_
          repeat (first
            | (apply text_pass (by rfl); go_simp)
            | (apply text_step (by rfl)
               · intro W hW
                 have rqx0 := hW.cellOf qx0.out
                 have rqx1 := hW.cellOf qx1.out
                 have rqy0 := hW.cellOf qy0.out
                 have rqy1 := hW.cellOf qy1.out
                 go_simp
                 exact ⟨rfl, hW⟩
               go_simp))
          apply text_end
          intro W hW
          have HW := Lib.hid (HK.out.trans hW)
          clear hW
          go_wp2_with fail
          refine ⟨⟨k + 1, hlt, by simp, HW.out, fun j a b hj ha hb => ?_⟩, by simp [intOf]; omega⟩
          by_cases e : j = k
          · subst e
            rw [HX.out] at ha
            rw [HY.out] at hb
            cases ha
            cases hb
            exact hxy.out
          · exact HQ.out j a b (by omega) ha hb
        · have hne : Hid (l1 ≠ l2) := Lib.hid (fun h => by
            have h1 := HX.out
            rw [h, HY.out] at h1
            cases h1
            rw [(sameSp_iff _ _).2 rfl] at d
            cases d)
          rw [d] at EQ
          go_wp2_with fail
          refine region_grows (Keep wr) (by kernel_rfl) (by kernel_rfl) (Keep.refl _).drew ?_
          repeat (first
            | (apply text_pass (by rfl); go_simp)
            | (apply text_step (by rfl)
               · intro W hW
                 have rqx0 := hW.cellOf qx0.out
                 have rqx1 := hW.cellOf qx1.out
                 have rqy0 := hW.cellOf qy0.out
                 have rqy1 := hW.cellOf qy1.out
                 go_simp
                 exact ⟨rfl, hW⟩
               go_simp))
          apply text_end
          intro W hW
          have HW := Lib.hid (HK.out.trans hW)
          clear hW
          go_wp2_with fail
          go_ret
          exact EqR.no hne.out HW.out
      · obtain rfl : k = n := by omega
        have he : Hid (l1 = l2) := Lib.hid (list_eq_of (by rw [← HN.out, ← HM.out]) (fun j x y h1 h2 => HQ.out j x y (by rw [HN.out]; exact (List.getElem?_eq_some_iff.1 h1).1) h1 h2))
        go_wp2_with fail
        go_ret
        exact EqR.yes he.out HK.out
  · have hnm' : ¬ (n : Int) = (l2.length : Int) := by omega
    have hne : Hid (l1 ≠ l2) := Lib.hid (fun h => hnm (by rw [HN.out, h]))
    obtain ⟨l, hl⟩ : ∃ l, l = l2.length := ⟨_, rfl⟩
    rw [← hl] at hnm' f2 ⊢
    clear hn hnm hl HN X1 X2
    go_enter Tryd.func27, Tryd.ntmps27
    go_wp2_with fail
    go_ret
    exact EqR.no hne.out (Keep.refl _)
set_option maxHeartbeats 4000000 in
set_option maxRecDepth 100000 in
theorem ipeq_I (l1 l2 : List InitV) (v1 v2 : Value) (w : World) (h1 : SlAt w v1 l1.length (l1.flatMap initRow)) (h2 : SlAt w v2 l2.length (l2.flatMap initRow)) (f1 : l1.length ≤ 1000000) (f2 : l2.length ≤ 1000000) :
    Calls Tryd.prog 28 #[v1, v2] w (EqR l1 l2 w) := by
  obtain ⟨p1, c1, rfl, hc1, x1⟩ := SlAt.rowsEq (f := initRow) (m := 7) (fun _ => rfl) (by decide) h1
  obtain ⟨p2, c2, rfl, hc2, x2⟩ := SlAt.rowsEq (f := initRow) (m := 7) (fun _ => rfl) (by decide) h2
  clear h1 h2 hc1 hc2
  have X1 := Lib.hid x1
  have X2 := Lib.hid x2
  clear x1 x2
  obtain ⟨n, hn⟩ : ∃ n, n = l1.length := ⟨_, rfl⟩
  rw [← hn] at f1 ⊢
  have HN := Lib.hid hn
  by_cases hnm : n = l2.length
  · rw [← hnm]
    have HM := Lib.hid hnm
    clear f2 hn hnm
    go_enter Tryd.func28, Tryd.ntmps28
    go_wp2_with fail
    go_loopw [5, 13] (fun _ i wr => ∃ k : Nat, k ≤ n ∧ i = .int .i64 (k : Int) ∧ Keep w wr ∧ ∀ (j : Nat) (x y : InitV), j < k → l1[j]? = some x → l2[j]? = some y → x = y) (fun _ i _ => n - (intOf i).toNat)
    case atStart => exact ⟨0, Nat.zero_le _, rfl, Keep.refl _, fun j _ _ hj => absurd hj (Nat.not_lt_zero _)⟩
    case round =>
      obtain ⟨k, hk, rfl, hK, heq⟩ := hrel
      have HQ := Lib.hid heq
      have HK := Lib.hid hK
      clear heq hK
      have k0 : (0 : Int) ≤ (k : Int) := Int.natCast_nonneg _
      by_cases hlt : k < n
      · have hkn : (k : Int) < (n : Int) := by omega
        obtain ⟨x, hx⟩ : ∃ x, l1[k]? = some x := ⟨_, List.getElem?_eq_getElem (by rw [← HN.out]; exact hlt)⟩
        obtain ⟨y, hy⟩ : ∃ y, l2[k]? = some y := ⟨_, List.getElem?_eq_getElem (by rw [← HM.out]; exact hlt)⟩
        rcases X1.out with hnil | ⟨b1, o1, rfl, hb1, y1⟩
        · rw [hnil] at hx; simp at hx
        rcases X2.out with hnil | ⟨b2, o2, rfl, hb2, y2⟩
        · rw [hnil] at hy; simp at hy
        have qx0 : Hid (wr.cell? ⟨b1, o1 + k * 7, none⟩ = some (.int .i64 x.comp)) := Lib.hid (by have := y1 k x hx 0 (by decide); rw [Nat.add_zero] at this; exact HK.out.cellOf this)
        have qx1 : Hid (wr.cell? ⟨b1, o1 + k * 7 + 1, none⟩ = some (.int .u32 x.at_)) := Lib.hid (by have := y1 k x hx 1 (by decide); rw [← Nat.add_assoc] at this; exact HK.out.cellOf this)
        have qx2 : Hid (wr.cell? ⟨b1, o1 + k * 7 + 2, none⟩ = some (.int .i64 x.kind)) := Lib.hid (by have := y1 k x hx 2 (by decide); rw [← Nat.add_assoc] at this; exact HK.out.cellOf this)
        have qx3 : Hid (wr.cell? ⟨b1, o1 + k * 7 + 3, none⟩ = some (.bool x.data)) := Lib.hid (by have := y1 k x hx 3 (by decide); rw [← Nat.add_assoc] at this; exact HK.out.cellOf this)
        have qx4 : Hid (wr.cell? ⟨b1, o1 + k * 7 + 4, none⟩ = some (.int .i64 x.src)) := Lib.hid (by have := y1 k x hx 4 (by decide); rw [← Nat.add_assoc] at this; exact HK.out.cellOf this)
        have qx5 : Hid (wr.cell? ⟨b1, o1 + k * 7 + 5, none⟩ = some (.int .u32 x.addr)) := Lib.hid (by have := y1 k x hx 5 (by decide); rw [← Nat.add_assoc] at this; exact HK.out.cellOf this)
        have qx6 : Hid (wr.cell? ⟨b1, o1 + k * 7 + 6, none⟩ = some (.int .u16 x.perm)) := Lib.hid (by have := y1 k x hx 6 (by decide); rw [← Nat.add_assoc] at this; exact HK.out.cellOf this)
        have qy0 : Hid (wr.cell? ⟨b2, o2 + k * 7, none⟩ = some (.int .i64 y.comp)) := Lib.hid (by have := y2 k y hy 0 (by decide); rw [Nat.add_zero] at this; exact HK.out.cellOf this)
        have qy1 : Hid (wr.cell? ⟨b2, o2 + k * 7 + 1, none⟩ = some (.int .u32 y.at_)) := Lib.hid (by have := y2 k y hy 1 (by decide); rw [← Nat.add_assoc] at this; exact HK.out.cellOf this)
        have qy2 : Hid (wr.cell? ⟨b2, o2 + k * 7 + 2, none⟩ = some (.int .i64 y.kind)) := Lib.hid (by have := y2 k y hy 2 (by decide); rw [← Nat.add_assoc] at this; exact HK.out.cellOf this)
        have qy3 : Hid (wr.cell? ⟨b2, o2 + k * 7 + 3, none⟩ = some (.bool y.data)) := Lib.hid (by have := y2 k y hy 3 (by decide); rw [← Nat.add_assoc] at this; exact HK.out.cellOf this)
        have qy4 : Hid (wr.cell? ⟨b2, o2 + k * 7 + 4, none⟩ = some (.int .i64 y.src)) := Lib.hid (by have := y2 k y hy 4 (by decide); rw [← Nat.add_assoc] at this; exact HK.out.cellOf this)
        have qy5 : Hid (wr.cell? ⟨b2, o2 + k * 7 + 5, none⟩ = some (.int .u32 y.addr)) := Lib.hid (by have := y2 k y hy 5 (by decide); rw [← Nat.add_assoc] at this; exact HK.out.cellOf this)
        have qy6 : Hid (wr.cell? ⟨b2, o2 + k * 7 + 6, none⟩ = some (.int .u16 y.perm)) := Lib.hid (by have := y2 k y hy 6 (by decide); rw [← Nat.add_assoc] at this; exact HK.out.cellOf this)
        have HX := Lib.hid hx
        have HY := Lib.hid hy
        have EQ := fun W => eqin_init x y W
        clear hx hy y1 y2
        rcases Bool.eq_false_or_eq_true (sameIn x y) with d | d
        · have hxy := Lib.hid ((sameIn_iff x y).1 d)
          rw [d] at EQ
          go_wp2_with fail
          refine region_grows (Keep wr) (by kernel_rfl) (by kernel_rfl) (Keep.refl _).drew ?_
          repeat (first
            | (apply text_pass (by rfl); go_simp)
            | (apply text_step (by rfl)
               · intro W hW
                 have rqx0 := hW.cellOf qx0.out
                 have rqx1 := hW.cellOf qx1.out
                 have rqx2 := hW.cellOf qx2.out
                 have rqx3 := hW.cellOf qx3.out
                 have rqx4 := hW.cellOf qx4.out
                 have rqx5 := hW.cellOf qx5.out
                 have rqx6 := hW.cellOf qx6.out
                 have rqy0 := hW.cellOf qy0.out
                 have rqy1 := hW.cellOf qy1.out
                 have rqy2 := hW.cellOf qy2.out
                 have rqy3 := hW.cellOf qy3.out
                 have rqy4 := hW.cellOf qy4.out
                 have rqy5 := hW.cellOf qy5.out
                 have rqy6 := hW.cellOf qy6.out
                 go_simp
                 exact ⟨rfl, hW⟩
               go_simp))
          apply text_end
          intro W hW
          have HW := Lib.hid (HK.out.trans hW)
          clear hW
          go_wp2_with fail
          refine ⟨⟨k + 1, hlt, by simp, HW.out, fun j a b hj ha hb => ?_⟩, by simp [intOf]; omega⟩
          by_cases e : j = k
          · subst e
            rw [HX.out] at ha
            rw [HY.out] at hb
            cases ha
            cases hb
            exact hxy.out
          · exact HQ.out j a b (by omega) ha hb
        · have hne : Hid (l1 ≠ l2) := Lib.hid (fun h => by
            have h1 := HX.out
            rw [h, HY.out] at h1
            cases h1
            rw [(sameIn_iff _ _).2 rfl] at d
            cases d)
          rw [d] at EQ
          go_wp2_with fail
          refine region_grows (Keep wr) (by kernel_rfl) (by kernel_rfl) (Keep.refl _).drew ?_
          repeat (first
            | (apply text_pass (by rfl); go_simp)
            | (apply text_step (by rfl)
               · intro W hW
                 have rqx0 := hW.cellOf qx0.out
                 have rqx1 := hW.cellOf qx1.out
                 have rqx2 := hW.cellOf qx2.out
                 have rqx3 := hW.cellOf qx3.out
                 have rqx4 := hW.cellOf qx4.out
                 have rqx5 := hW.cellOf qx5.out
                 have rqx6 := hW.cellOf qx6.out
                 have rqy0 := hW.cellOf qy0.out
                 have rqy1 := hW.cellOf qy1.out
                 have rqy2 := hW.cellOf qy2.out
                 have rqy3 := hW.cellOf qy3.out
                 have rqy4 := hW.cellOf qy4.out
                 have rqy5 := hW.cellOf qy5.out
                 have rqy6 := hW.cellOf qy6.out
                 go_simp
                 exact ⟨rfl, hW⟩
               go_simp))
          apply text_end
          intro W hW
          have HW := Lib.hid (HK.out.trans hW)
          clear hW
          go_wp2_with fail
          go_ret
          exact EqR.no hne.out HW.out
      · obtain rfl : k = n := by omega
        have he : Hid (l1 = l2) := Lib.hid (list_eq_of (by rw [← HN.out, ← HM.out]) (fun j x y h1 h2 => HQ.out j x y (by rw [HN.out]; exact (List.getElem?_eq_some_iff.1 h1).1) h1 h2))
        go_wp2_with fail
        go_ret
        exact EqR.yes he.out HK.out
  · have hnm' : ¬ (n : Int) = (l2.length : Int) := by omega
    have hne : Hid (l1 ≠ l2) := Lib.hid (fun h => hnm (by rw [HN.out, h]))
    obtain ⟨l, hl⟩ : ∃ l, l = l2.length := ⟨_, rfl⟩
    rw [← hl] at hnm' f2 ⊢
    clear hn hnm hl HN X1 X2
    go_enter Tryd.func28, Tryd.ntmps28
    go_wp2_with fail
    go_ret
    exact EqR.no hne.out (Keep.refl _)
set_option maxHeartbeats 4000000 in
set_option maxRecDepth 100000 in
theorem ipeq_B (l1 l2 : List Nat) (v1 v2 : Value) (w : World) (h1 : SlAt w v1 l1.length (l1.flatMap byteRow)) (h2 : SlAt w v2 l2.length (l2.flatMap byteRow)) (f1 : l1.length ≤ 1000000) (f2 : l2.length ≤ 1000000) :
    Calls Tryd.prog 29 #[v1, v2] w (EqR l1 l2 w) := by
  obtain ⟨p1, c1, rfl, hc1, x1⟩ := SlAt.rowsEq (f := byteRow) (m := 1) (fun _ => rfl) (by decide) h1
  obtain ⟨p2, c2, rfl, hc2, x2⟩ := SlAt.rowsEq (f := byteRow) (m := 1) (fun _ => rfl) (by decide) h2
  clear h1 h2 hc1 hc2
  have X1 := Lib.hid x1
  have X2 := Lib.hid x2
  clear x1 x2
  obtain ⟨n, hn⟩ : ∃ n, n = l1.length := ⟨_, rfl⟩
  rw [← hn] at f1 ⊢
  have HN := Lib.hid hn
  by_cases hnm : n = l2.length
  · rw [← hnm]
    have HM := Lib.hid hnm
    clear f2 hn hnm
    go_enter Tryd.func29, Tryd.ntmps29
    go_wp2_with fail
    go_loopw [5, 13] (fun _ i wr => ∃ k : Nat, k ≤ n ∧ i = .int .i64 (k : Int) ∧ Keep w wr ∧ ∀ (j : Nat) (x y : Nat), j < k → l1[j]? = some x → l2[j]? = some y → x = y) (fun _ i _ => n - (intOf i).toNat)
    case atStart => exact ⟨0, Nat.zero_le _, rfl, Keep.refl _, fun j _ _ hj => absurd hj (Nat.not_lt_zero _)⟩
    case round =>
      obtain ⟨k, hk, rfl, hK, heq⟩ := hrel
      have HQ := Lib.hid heq
      have HK := Lib.hid hK
      clear heq hK
      have k0 : (0 : Int) ≤ (k : Int) := Int.natCast_nonneg _
      by_cases hlt : k < n
      · have hkn : (k : Int) < (n : Int) := by omega
        obtain ⟨x, hx⟩ : ∃ x, l1[k]? = some x := ⟨_, List.getElem?_eq_getElem (by rw [← HN.out]; exact hlt)⟩
        obtain ⟨y, hy⟩ : ∃ y, l2[k]? = some y := ⟨_, List.getElem?_eq_getElem (by rw [← HM.out]; exact hlt)⟩
        rcases X1.out with hnil | ⟨b1, o1, rfl, hb1, y1⟩
        · rw [hnil] at hx; simp at hx
        rcases X2.out with hnil | ⟨b2, o2, rfl, hb2, y2⟩
        · rw [hnil] at hy; simp at hy
        have qx0 : Hid (wr.cell? ⟨b1, o1 + k, none⟩ = some (.int .u8 (x : Int))) := Lib.hid (by have := y1 k x hx 0 (by decide); rw [Nat.mul_one, Nat.add_zero] at this; exact HK.out.cellOf this)
        have qy0 : Hid (wr.cell? ⟨b2, o2 + k, none⟩ = some (.int .u8 (y : Int))) := Lib.hid (by have := y2 k y hy 0 (by decide); rw [Nat.mul_one, Nat.add_zero] at this; exact HK.out.cellOf this)
        have HX := Lib.hid hx
        have HY := Lib.hid hy
        clear hx hy y1 y2
        rcases Bool.eq_false_or_eq_true ((x : Int) == (y : Int)) with d | d
        · have hxy := Lib.hid ((u8_iff x y).1 d)
          have d2 : ((x : Int) != (y : Int)) = false := by rw [bne, d]; rfl
          go_wp2_with fail
          refine region_grows (Keep wr) (by kernel_rfl) (by kernel_rfl) (Keep.refl _).drew ?_
          repeat (first
            | (apply text_pass (by rfl); go_simp)
            | (apply text_step (by rfl)
               · intro W hW
                 have rqx0 := hW.cellOf qx0.out
                 have rqy0 := hW.cellOf qy0.out
                 go_simp
                 exact ⟨rfl, hW⟩
               go_simp))
          apply text_end
          intro W hW
          have HW := Lib.hid (HK.out.trans hW)
          clear hW
          go_wp2_with fail
          refine ⟨⟨k + 1, hlt, by simp, HW.out, fun j a b hj ha hb => ?_⟩, by simp [intOf]; omega⟩
          by_cases e : j = k
          · subst e
            rw [HX.out] at ha
            rw [HY.out] at hb
            cases ha
            cases hb
            exact hxy.out
          · exact HQ.out j a b (by omega) ha hb
        · have hne : Hid (l1 ≠ l2) := Lib.hid (fun h => by
            have h1 := HX.out
            rw [h, HY.out] at h1
            cases h1
            rw [(u8_iff _ _).2 rfl] at d
            cases d)
          have d2 : ((x : Int) != (y : Int)) = true := by rw [bne, d]; rfl
          go_wp2_with fail
          refine region_grows (Keep wr) (by kernel_rfl) (by kernel_rfl) (Keep.refl _).drew ?_
          repeat (first
            | (apply text_pass (by rfl); go_simp)
            | (apply text_step (by rfl)
               · intro W hW
                 have rqx0 := hW.cellOf qx0.out
                 have rqy0 := hW.cellOf qy0.out
                 go_simp
                 exact ⟨rfl, hW⟩
               go_simp))
          apply text_end
          intro W hW
          have HW := Lib.hid (HK.out.trans hW)
          clear hW
          go_wp2_with fail
          go_ret
          exact EqR.no hne.out HW.out
      · obtain rfl : k = n := by omega
        have he : Hid (l1 = l2) := Lib.hid (list_eq_of (by rw [← HN.out, ← HM.out]) (fun j x y h1 h2 => HQ.out j x y (by rw [HN.out]; exact (List.getElem?_eq_some_iff.1 h1).1) h1 h2))
        go_wp2_with fail
        go_ret
        exact EqR.yes he.out HK.out
  · have hnm' : ¬ (n : Int) = (l2.length : Int) := by omega
    have hne : Hid (l1 ≠ l2) := Lib.hid (fun h => hnm (by rw [HN.out, h]))
    obtain ⟨l, hl⟩ : ∃ l, l = l2.length := ⟨_, rfl⟩
    rw [← hl] at hnm' f2 ⊢
    clear hn hnm hl HN X1 X2
    go_enter Tryd.func29, Tryd.ntmps29
    go_wp2_with fail
    go_ret
    exact EqR.no hne.out (Keep.refl _)
set_option maxHeartbeats 4000000 in
set_option maxRecDepth 100000 in
theorem ipeq_U (l1 l2 : List Int) (v1 v2 : Value) (w : World) (h1 : SlAt w v1 l1.length (l1.flatMap uRow)) (h2 : SlAt w v2 l2.length (l2.flatMap uRow)) (f1 : l1.length ≤ 1000000) (f2 : l2.length ≤ 1000000) :
    Calls Tryd.prog 54 #[v1, v2] w (EqR l1 l2 w) := by
  obtain ⟨p1, c1, rfl, hc1, x1⟩ := SlAt.rowsEq (f := uRow) (m := 1) (fun _ => rfl) (by decide) h1
  obtain ⟨p2, c2, rfl, hc2, x2⟩ := SlAt.rowsEq (f := uRow) (m := 1) (fun _ => rfl) (by decide) h2
  clear h1 h2 hc1 hc2
  have X1 := Lib.hid x1
  have X2 := Lib.hid x2
  clear x1 x2
  obtain ⟨n, hn⟩ : ∃ n, n = l1.length := ⟨_, rfl⟩
  rw [← hn] at f1 ⊢
  have HN := Lib.hid hn
  by_cases hnm : n = l2.length
  · rw [← hnm]
    have HM := Lib.hid hnm
    clear f2 hn hnm
    go_enter Tryd.func54, Tryd.ntmps54
    go_wp2_with fail
    go_loopw [5, 13] (fun _ i wr => ∃ k : Nat, k ≤ n ∧ i = .int .i64 (k : Int) ∧ Keep w wr ∧ ∀ (j : Nat) (x y : Int), j < k → l1[j]? = some x → l2[j]? = some y → x = y) (fun _ i _ => n - (intOf i).toNat)
    case atStart => exact ⟨0, Nat.zero_le _, rfl, Keep.refl _, fun j _ _ hj => absurd hj (Nat.not_lt_zero _)⟩
    case round =>
      obtain ⟨k, hk, rfl, hK, heq⟩ := hrel
      have HQ := Lib.hid heq
      have HK := Lib.hid hK
      clear heq hK
      have k0 : (0 : Int) ≤ (k : Int) := Int.natCast_nonneg _
      by_cases hlt : k < n
      · have hkn : (k : Int) < (n : Int) := by omega
        obtain ⟨x, hx⟩ : ∃ x, l1[k]? = some x := ⟨_, List.getElem?_eq_getElem (by rw [← HN.out]; exact hlt)⟩
        obtain ⟨y, hy⟩ : ∃ y, l2[k]? = some y := ⟨_, List.getElem?_eq_getElem (by rw [← HM.out]; exact hlt)⟩
        rcases X1.out with hnil | ⟨b1, o1, rfl, hb1, y1⟩
        · rw [hnil] at hx; simp at hx
        rcases X2.out with hnil | ⟨b2, o2, rfl, hb2, y2⟩
        · rw [hnil] at hy; simp at hy
        have qx0 : Hid (wr.cell? ⟨b1, o1 + k, none⟩ = some (.int .u32 x)) := Lib.hid (by have := y1 k x hx 0 (by decide); rw [Nat.mul_one, Nat.add_zero] at this; exact HK.out.cellOf this)
        have qy0 : Hid (wr.cell? ⟨b2, o2 + k, none⟩ = some (.int .u32 y)) := Lib.hid (by have := y2 k y hy 0 (by decide); rw [Nat.mul_one, Nat.add_zero] at this; exact HK.out.cellOf this)
        have HX := Lib.hid hx
        have HY := Lib.hid hy
        clear hx hy y1 y2
        rcases Bool.eq_false_or_eq_true (x == y) with d | d
        · have hxy := Lib.hid ((int_iff x y).1 d)
          have d2 : (x != y) = false := by rw [bne, d]; rfl
          go_wp2_with fail
          refine region_grows (Keep wr) (by kernel_rfl) (by kernel_rfl) (Keep.refl _).drew ?_
          repeat (first
            | (apply text_pass (by rfl); go_simp)
            | (apply text_step (by rfl)
               · intro W hW
                 have rqx0 := hW.cellOf qx0.out
                 have rqy0 := hW.cellOf qy0.out
                 go_simp
                 exact ⟨rfl, hW⟩
               go_simp))
          apply text_end
          intro W hW
          have HW := Lib.hid (HK.out.trans hW)
          clear hW
          go_wp2_with fail
          refine ⟨⟨k + 1, hlt, by simp, HW.out, fun j a b hj ha hb => ?_⟩, by simp [intOf]; omega⟩
          by_cases e : j = k
          · subst e
            rw [HX.out] at ha
            rw [HY.out] at hb
            cases ha
            cases hb
            exact hxy.out
          · exact HQ.out j a b (by omega) ha hb
        · have hne : Hid (l1 ≠ l2) := Lib.hid (fun h => by
            have h1 := HX.out
            rw [h, HY.out] at h1
            cases h1
            rw [(int_iff _ _).2 rfl] at d
            cases d)
          have d2 : (x != y) = true := by rw [bne, d]; rfl
          go_wp2_with fail
          refine region_grows (Keep wr) (by kernel_rfl) (by kernel_rfl) (Keep.refl _).drew ?_
          repeat (first
            | (apply text_pass (by rfl); go_simp)
            | (apply text_step (by rfl)
               · intro W hW
                 have rqx0 := hW.cellOf qx0.out
                 have rqy0 := hW.cellOf qy0.out
                 go_simp
                 exact ⟨rfl, hW⟩
               go_simp))
          apply text_end
          intro W hW
          have HW := Lib.hid (HK.out.trans hW)
          clear hW
          go_wp2_with fail
          go_ret
          exact EqR.no hne.out HW.out
      · obtain rfl : k = n := by omega
        have he : Hid (l1 = l2) := Lib.hid (list_eq_of (by rw [← HN.out, ← HM.out]) (fun j x y h1 h2 => HQ.out j x y (by rw [HN.out]; exact (List.getElem?_eq_some_iff.1 h1).1) h1 h2))
        go_wp2_with fail
        go_ret
        exact EqR.yes he.out HK.out
  · have hnm' : ¬ (n : Int) = (l2.length : Int) := by omega
    have hne : Hid (l1 ≠ l2) := Lib.hid (fun h => hnm (by rw [HN.out, h]))
    obtain ⟨l, hl⟩ : ∃ l, l = l2.length := ⟨_, rfl⟩
    rw [← hl] at hnm' f2 ⊢
    clear hn hnm hl HN X1 X2
    go_enter Tryd.func54, Tryd.ntmps54
    go_wp2_with fail
    go_ret
    exact EqR.no hne.out (Keep.refl _)
end Go.Proofs.YtmcbeclkocjlkaaDoor
