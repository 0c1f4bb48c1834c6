/- ImgNil, ImgThree, ImgFns, ImgSpans, ImgPart, ImgFewM: append of nothing, in a plain region. -/
import Derived.Deep.Upon
import Derived.WalkKit
import Derived.ProofKit
import Derived.Test.YtmcbeclkocjlkaaGreatDoorImgAt
import Derived.Test.YtmcbeclkocjlkaaGreatDoorGRows
import Derived.Test.YtmcbeclkocjlkaaGreatDoorGObjF
import Derived.Test.YtmcbeclkocjlkaaGreatDoorGBase
import Derived.IntWalk
import Derived.Test.YtmcbeclkocjlkaaGreatDoorGPlainI
/- append of nothing, in a plain region. -/
namespace Go.Proofs.YtmcbeclkocjlkaaGreatDoor
set_option linter.unusedVariables false
set_option linter.unusedSimpArgs false
open Go Go.RowKit
/-- append of a nil slice. -/
theorem wpList_append_nil {P : Program} {w : World} {ops : Array Oper} {rest : List Oper} {o : Oper} {a : Act} {Q : Exit → Act → World → Prop} (hgd : o.guard = none) (s x : Operand) (t : TypeId)
    (ho : o.op = .call { callee := .builtin .append, args := #[s, x], argTypes := #[t, t] })
    (e : TypeId) (i : TypeInfo) (ht : P.underlying t = some (.slice e)) (hi : P.info? e = some i) (q : Option Addr) (n c k : Nat) (hs : a.eval s = .slice q n c) (hx : a.eval x = .slice none 0 k) (hn : n ≤ c)
    (h : wpList P ops Q rest (a.put o.dst (.slice q n c)) w) : wpList P ops Q (o :: rest) a w :=
  wpList_plain hgd fun _ hK => by
    have hr := run_append_nothing (P := P) (ty := o.type) w t t e i ht hi q n c hn (.slice none 0 k) (Src.ofNil w ht k)
    unfold Oper.wp execOp
    simp only [ho, resolve, invoke, builtin, Sem.run_bind, Sem.run_pure, Result.andThen_ok, List.map_toArray, List.map_cons, List.map_nil, hs, hx, hr]
    exact hK _ _ h
end Go.Proofs.YtmcbeclkocjlkaaGreatDoor

/- An image's spans, three of each part, plain; what few images are. -/
namespace Go.Proofs.YtmcbeclkocjlkaaGreatDoor
set_option linter.unusedVariables false
set_option linter.unusedSimpArgs false
open Go Go.RowKit
theorem ownForm {w : World} {base : Nat} {e : TypeId} {size : Nat} {v : Value} {n : Nat} {xs : List Value} (h : w.ownsRow base e size v n xs) : ∃ q c, v = .slice q n c ∧ n ≤ c := by
  obtain ⟨_, ⟨h1, h2⟩ | ⟨g, cap, cur, hv, _, _, hn, _⟩⟩ := h
  · subst h2; exact ⟨none, 0, h1, Nat.le_refl _⟩
  · exact ⟨_, cap, hv, hn⟩
theorem spanRows_length (l : List SpanV) : (spanRows l).length = l.length * 2 := by
  induction l with
  | nil => rfl
  | cons a l ih => unfold spanRows at ih ⊢; rw [List.flatMap_cons, List.length_append, ih, List.length_cons]; simp [spanRow]; omega
theorem spanRows_one (l : List SpanV) : ∀ u ∈ spanRows l, u.oneCell' = true := by
  intro u hu
  unfold spanRows at hu
  obtain ⟨s, _, hs⟩ := List.mem_flatMap.1 hu
  simp only [spanRow, List.mem_cons, List.not_mem_nil, or_false] at hs
  rcases hs with rfl | rfl <;> rfl
def threeS (p : PartV) : List SpanV := [p.code, p.data, p.stack]
theorem take_three (l : List PartV) (k : Nat) (p : PartV) (h : l[k]? = some p) : spanRows ((l.take (k + 1)).flatMap threeS) = spanRows ((l.take k).flatMap threeS) ++ spanRows (threeS p) := by
  obtain ⟨hk, rfl⟩ := List.getElem?_eq_some_iff.1 h
  rw [List.take_succ_eq_append_getElem hk, List.flatMap_append]
  unfold spanRows
  rw [List.flatMap_append]
  simp
theorem three_length (l : List PartV) : (l.flatMap threeS).length = l.length * 3 := by
  induction l with
  | nil => rfl
  | cons a l ih => rw [List.flatMap_cons, List.length_append, ih, List.length_cons]; simp [threeS]; omega
theorem spansI_eq (i : ImgV) : spansI i = i.parts.flatMap threeS ++ i.shares := rfl
def imgCells (i : ImgV) (vp vs vi vb : Value) : Array Value := #[.int .u32 i.size, vp, vs, vi, .int .i64 i.start, .int .u32 i.addr, vb]
theorem cellK {S : Nat → Prop} {w w' : World} (k : KeepBut S w w') {b : Nat} (hb : b < w.heap.size) (hS : ¬ S b) {o : Nat} {v : Value} (h : w.cell? ⟨b, o, none⟩ = some v) : w'.cell? ⟨b, o, none⟩ = some v := by
  rw [← h]
  simp only [World.cell?, k.block b hb hS]
/-- hasplaw18.Few. -/
structure ImgFew (i : ImgV) : Prop where
  parts : i.parts.length ≤ 12
  shares : i.shares.length ≤ 12
  inits : i.inits.length ≤ 60
  bytes : i.bytes.length ≤ 2000
  names : ∀ p ∈ i.parts, p.name.size ≤ 100
  ents : ∀ p ∈ i.parts, p.entries.length ≤ 70
theorem any_take {α : Type} (f : α → Bool) (l : List α) (k : Nat) (hk : k ≤ l.length) (h : ∀ (j : Nat) (x : α), j < k → l[j]? = some x → f x = false) : (l.take k).any f = false := by
  rw [List.any_eq_false]
  intro x hx
  obtain ⟨j, hj⟩ := List.mem_iff_getElem?.1 hx
  rw [List.getElem?_take] at hj
  split at hj
  · rw [h j x (by assumption) hj]; simp
  · cases hj
theorem any_take_at {α : Type} (f : α → Bool) (l : List α) (k j : Nat) (x : α) (hj : j < k) (hx : l[j]? = some x) (hf : f x = true) : (l.take k).any f = true := by
  rw [List.any_eq_true]
  exact ⟨x, List.mem_iff_getElem?.2 ⟨j, by rw [List.getElem?_take, if_pos hj]; exact hx⟩, hf⟩
theorem part_spans {i : ImgV} (h : ImgNum i) {m : Nat} {c : PartV} (hc : i.parts[m]? = some c) : SpanOk c.code ∧ SpanOk c.data ∧ SpanOk c.stack := by
  have hm := List.mem_of_getElem? hc
  refine ⟨h.spans _ ?_, h.spans _ ?_, h.spans _ ?_⟩ <;> (rw [spansI_eq, List.mem_append, List.mem_flatMap]; exact .inl ⟨c, hm, by simp [threeS]⟩)
end Go.Proofs.YtmcbeclkocjlkaaGreatDoor

/- The reference's meet, within, among. -/
namespace Go.Proofs.YtmcbeclkocjlkaaGreatDoor
set_option linter.unusedVariables false
set_option linter.unusedSimpArgs false
open Go.RowKit
set_option maxHeartbeats 2000000 in
set_option maxRecDepth 100000 in
theorem rmeet_any (a b : SpanV) (ha : SpanOk a) (hb : SpanOk b) (w : World) : Calls Tryz.prog 15 #[spanVal a, spanVal b] w fun e w' => e = .returned (.bool (meetS a b)) ∧ Keep w w' := by
  obtain ⟨⟨a0, a1⟩, a2, a3⟩ := ha
  obtain ⟨⟨b0, b1⟩, b2, b3⟩ := hb
  unfold spanVal
  by_cases h1 : 0 < a.size
  rotate_left
  · have d1 : decide (0 < a.size) = false := decide_eq_false h1
    rw [show meetS a b = false by unfold meetS; rw [d1]; rfl]
    go_enter Tryz.func15, Tryz.ntmps15
    go_wp2_with fail
    go_ret
    exact ⟨rfl, ((Keep.refl _).alloc _).alloc _⟩
  have d1 : decide (0 < a.size) = true := decide_eq_true h1
  by_cases h2 : 0 < b.size
  rotate_left
  · have d2 : decide (0 < b.size) = false := decide_eq_false h2
    rw [show meetS a b = false by unfold meetS; rw [d1, d2]; rfl]
    go_enter Tryz.func15, Tryz.ntmps15
    go_wp2_with fail
    go_ret
    exact ⟨rfl, ((Keep.refl _).alloc _).alloc _⟩
  have d2 : decide (0 < b.size) = true := decide_eq_true h2
  by_cases h3 : a.at_ < b.at_ + b.size
  rotate_left
  · have d3 : decide (a.at_ < b.at_ + b.size) = false := decide_eq_false h3
    rw [show meetS a b = false by unfold meetS; rw [d1, d2, d3]; rfl]
    go_enter Tryz.func15, Tryz.ntmps15
    go_wp2_with fail
    go_ret
    exact ⟨rfl, ((Keep.refl _).alloc _).alloc _⟩
  have d3 : decide (a.at_ < b.at_ + b.size) = true := decide_eq_true h3
  by_cases h4 : b.at_ < a.at_ + a.size
  rotate_left
  · have d4 : decide (b.at_ < a.at_ + a.size) = false := decide_eq_false h4
    rw [show meetS a b = false by unfold meetS; rw [d1, d2, d3, d4]; rfl]
    go_enter Tryz.func15, Tryz.ntmps15
    go_wp2_with fail
    go_ret
    exact ⟨rfl, ((Keep.refl _).alloc _).alloc _⟩
  have d4 : decide (b.at_ < a.at_ + a.size) = true := decide_eq_true h4
  rw [show meetS a b = true by unfold meetS; rw [d1, d2, d3, d4]; rfl]
  go_enter Tryz.func15, Tryz.ntmps15
  go_wp2_with fail
  go_ret
  exact ⟨rfl, ((Keep.refl _).alloc _).alloc _⟩
set_option maxHeartbeats 2000000 in
set_option maxRecDepth 100000 in
theorem rwithin_any (s : SpanV) (a n : Int) (hs : SpanOk s) (ha : N32 a) (hn : 0 ≤ n ∧ n ≤ 1000) (w : World) : Calls Tryz.prog 17 #[spanVal s, .int .u32 a, .int .u64 n] w fun e w' => e = .returned (.bool (withinS s a n)) ∧ Keep w w' := by
  obtain ⟨⟨s0, s1⟩, s2, s3⟩ := hs
  obtain ⟨a0, a1⟩ := ha
  obtain ⟨n0, n1⟩ := hn
  unfold spanVal
  by_cases h1 : s.at_ ≤ a
  rotate_left
  · have d1 : decide (s.at_ ≤ a) = false := decide_eq_false h1
    rw [show withinS s a n = false by unfold withinS; rw [d1]; rfl]
    go_enter Tryz.func17, Tryz.ntmps17
    go_wp2_with fail
    go_ret
    exact ⟨rfl, (Keep.refl _).alloc _⟩
  have d1 : decide (s.at_ ≤ a) = true := decide_eq_true h1
  by_cases h2 : a + n ≤ s.at_ + s.size
  rotate_left
  · have d2 : decide (a + n ≤ s.at_ + s.size) = false := decide_eq_false h2
    rw [show withinS s a n = false by unfold withinS; rw [d1, d2]; rfl]
    go_enter Tryz.func17, Tryz.ntmps17
    go_wp2_with fail
    go_ret
    exact ⟨rfl, (Keep.refl _).alloc _⟩
  have d2 : decide (a + n ≤ s.at_ + s.size) = true := decide_eq_true h2
  rw [show withinS s a n = true by unfold withinS; rw [d1, d2]; rfl]
  go_enter Tryz.func17, Tryz.ntmps17
  go_wp2_with fail
  go_ret
  exact ⟨rfl, (Keep.refl _).alloc _⟩
set_option maxHeartbeats 2000000 in
set_option maxRecDepth 100000 in
theorem ramong_any (v : Value) (l : List Int) (x : Int) (w : World) (h : NumsAt w v l) (few : l.length ≤ 1000000) : Calls Tryz.prog 19 #[v, .int .u32 x] w fun e w' => e = .returned (.bool (amongI l x)) ∧ w = w' := by
  obtain ⟨p, cap, rfl, hcap, hmax, hx⟩ := h.at
  obtain ⟨R, hR⟩ : ∃ R, amongI l x = R := ⟨_, rfl⟩
  rw [hR]
  have HR := Lib.hid hR
  clear h hR
  rcases hx with hnil | ⟨b, off, rfl, hlt, hx⟩
  · subst hnil
    have e : R = false := HR.out.symm
    subst e
    go_enter Tryz.func19, Tryz.ntmps19
    go_wp2_with fail
    go_loop [5] (fun i => i = .int .i64 0) (fun i => 0)
    case atStart => exact rfl
    case round =>
      obtain rfl := hrel
      go_wp2_with fail
      go_ret
      exact ⟨rfl, rfl⟩
  · have HX := Lib.hid hx
    clear hx
    go_enter Tryz.func19, Tryz.ntmps19
    go_wp2_with fail
    go_loop [5] (fun i => ∃ k : Nat, k ≤ l.length ∧ i = .int .i64 (k : Int) ∧ ∀ (j : Nat) (y : Int), j < k → l[j]? = some y → y ≠ x) (fun i => l.length - (intOf i).toNat)
    case atStart => exact ⟨0, Nat.zero_le _, rfl, fun j y hj => absurd hj (by omega)⟩
    case round =>
      obtain ⟨k, hk, rfl, hno⟩ := hrel
      have HN := Lib.hid hno
      clear hno
      by_cases h : k < l.length
      · obtain ⟨y, hy⟩ : ∃ y, l[k]? = some y := ⟨_, List.getElem?_eq_getElem h⟩
        have HK := Lib.hid hy
        have hki : (k : Int) < (l.length : Int) := by omega
        have c0 := HX.out k y hy
        clear hy
        rcases Bool.eq_false_or_eq_true (y == x) with d | d
        · have e : R = true := by
            rw [← HR.out]
            unfold amongI
            exact List.any_eq_true.2 ⟨y, List.mem_of_getElem? HK.out, by simpa using d⟩
          subst e
          go_wp2_with fail
          go_ret
          exact ⟨rfl, rfl⟩
        · have HS2 : Hid (∀ (j : Nat) (z : Int), j < k + 1 → l[j]? = some z → z ≠ x) := Lib.hid (fun j z hj hz => by
            by_cases e : j = k
            · subst e
              rw [HK.out] at hz
              cases hz
              exact beq_eq_false_iff_ne.1 d
            · exact HN.out j z (by omega) hz)
          go_wp2_with fail
          go_round
          case rel => exact ⟨k + 1, h, by go_num, HS2.out⟩
          case measure => simp [intOf]; omega
      · obtain rfl : k = l.length := by omega
        have e : R = false := by
          rw [← HR.out]
          unfold amongI
          rw [List.any_eq_false]
          intro y hy
          obtain ⟨j, hj, rfl⟩ := List.mem_iff_getElem.1 hy
          simpa using HN.out j _ hj (List.getElem?_eq_getElem hj)
        subst e
        go_wp2_with fail
        go_ret
        exact ⟨rfl, rfl⟩
end Go.Proofs.YtmcbeclkocjlkaaGreatDoor

/- The reference's spans: three of each part, then the shares. -/
namespace Go.Proofs.YtmcbeclkocjlkaaGreatDoor
set_option linter.unusedVariables false
set_option linter.unusedSimpArgs false
open Go Go.RowKit
theorem infoSpan : (Tryz.prog.info? 61).map (fun i => (i.zero, i.size, i.bytes)) = some (some (.agg #[.int .u32 0, .int .u32 0]), 2, 8) := by kernel_rfl
set_option maxHeartbeats 2000000 in
set_option maxRecDepth 100000 in
theorem rspans_any (i : ImgV) (vp vs vi vb : Value) (ves : List Value) (w : World) (h : ImgAt w i vp vs vi vb ves) (hpf : i.parts.length ≤ 1000000) (hsf : i.shares.length ≤ 1000000) :
    Calls Tryz.prog 14 #[imgVal i vp vs vi vb] w fun e w' => ∃ v, e = .returned v ∧ w'.ownsRow (w.heap.size + 1) 61 2 v (spansI i).length (spanRows (spansI i)) ∧ Keep w w' := by
  obtain ⟨i0, hi0, hz0, hz1, hz2⟩ := info_parts infoSpan
  obtain ⟨pp, pc, hvp, hp1, hp2, hp3⟩ := h.partsAt
  obtain ⟨sp, sc, hvs, hs1, hs2, hs3⟩ := h.sharesAt
  have nves := h.nves
  have HL := Lib.hid h.shares
  subst hvp hvs
  have HP := Lib.hid hp3
  have HS := Lib.hid hs3
  clear h hp3 hs3
  unfold imgVal
  go_enter Tryz.func14, Tryz.ntmps14
  go_wp2_with fail
  go_loopw [3, 4] (fun v k wr => ∃ j : Nat, j ≤ i.parts.length ∧ k = .int .i64 (j : Int) ∧ wr.ownsRow (w.heap.size + 1) 61 2 v (j * 3) (spanRows ((i.parts.take j).flatMap threeS)) ∧ Box wr w.heap.size (imgCells i (.slice pp i.parts.length pc) (.slice sp i.shares.length sc) vi vb) ∧ Keep w wr) (fun _ k _ => i.parts.length - (intOf k).toNat)
  case atStart => exact ⟨0, Nat.zero_le _, rfl, World.ownsRow_nil _ _ _ _, Box.new w _ _, (Keep.refl _).alloc _⟩
  case round =>
    obtain ⟨k, hk, rfl, hO, hB, hK⟩ := hrel
    have k0 : (0 : Int) ≤ (k : Int) := Int.natCast_nonneg _
    have HO := Lib.hid hO
    have HB := Lib.hid hB
    have HK := Lib.hid hK
    have hlt := hB.lt
    clear hO hB hK
    by_cases h : k < i.parts.length
    · obtain ⟨x, hx⟩ : ∃ x, i.parts[k]? = some x := ⟨_, List.getElem?_eq_getElem h⟩
      obtain ⟨ve, hve⟩ : ∃ ve, ves[k]? = some ve := ⟨_, List.getElem?_eq_getElem (by omega)⟩
      have hki : (k : Int) < (i.parts.length : Int) := by omega
      have wk : IntKind.i64.wrap ((k : Int) + 1) = (k : Int) + 1 := by rw [IntKind.wrap_i64]; omega
      have HR := Lib.hid (take_three i.parts k x hx)
      obtain ⟨b, off, hp, hb, hc⟩ : ∃ b off, pp = some ⟨b, off, none⟩ ∧ b < w.heap.size ∧ _ := by
        rcases HP.out with e | e
        · rw [e] at hx; cases hx
        · exact e
      have HC := Lib.hid (hc k x ve hx hve)
      subst hp
      clear hx hve hc
      have c0 : wr.cell? ⟨w.heap.size, 1, none⟩ = some (.slice (some ⟨b, off, none⟩) i.parts.length pc) := by rw [HB.out.cells]; rfl
      go_wp2_with fail
      refine Rel.regionO (KeepBut (fun z => w.heap.size + 1 ≤ z)) (butWay _) [19, 20] [0, 1, 2, 3, 4, 5, 6, 7, 8, 9, 10, 11, 12, 13, 14, 15, 16, 17, 18, 19, 20, 21] (by kernel_rfl) (by kernel_rfl) (Keep.refl _) ?_
      clear c0
      repeat (apply Rel.ordK_step (by rfl) (by rfl) (by rfl)
              · intro W' hW'
                have c : W'.cell? ⟨w.heap.size, 1, none⟩ = some (.slice (some ⟨b, off, none⟩) i.parts.length pc) := by rw [(HB.out.but hW' (by omega)).cells]; rfl
                have kk := hb
                have c1 := cellK hW' (Nat.lt_of_lt_of_le hb HK.out.size) (by omega) (HK.out.cellOf HC.out.2.1)
                have c2 := cellK hW' (Nat.lt_of_lt_of_le hb HK.out.size) (by omega) (HK.out.cellOf HC.out.2.2.1)
                have c3 := cellK hW' (Nat.lt_of_lt_of_le hb HK.out.size) (by omega) (HK.out.cellOf HC.out.2.2.2.1)
                have c4 := cellK hW' (Nat.lt_of_lt_of_le hb HK.out.size) (by omega) (HK.out.cellOf HC.out.2.2.2.2.1)
                have c5 := cellK hW' (Nat.lt_of_lt_of_le hb HK.out.size) (by omega) (HK.out.cellOf HC.out.2.2.2.2.2.1)
                have c6 := cellK hW' (Nat.lt_of_lt_of_le hb HK.out.size) (by omega) (HK.out.cellOf HC.out.2.2.2.2.2.2.1)
                go_simp
                exact ⟨rfl, Keep.refl _⟩
              go_simp)
      apply Rel.ordK_loose (by rfl) (by rfl) (by rfl)
      intro W1 hW1
      go_simp
      apply Rel.gives_value
      refine ⟨((Keep.refl _).alloc _).but _, ?_⟩
      have BR : Box (W1.alloc (.cells #[.int .u32 x.code.at_, .int .u32 x.code.size, .int .u32 x.data.at_, .int .u32 x.data.size, .int .u32 x.stack.at_, .int .u32 x.stack.size] 61)) W1.heap.size #[.int .u32 x.code.at_, .int .u32 x.code.size, .int .u32 x.data.at_, .int .u32 x.data.size, .int .u32 x.stack.at_, .int .u32 x.stack.size] := Box.new _ _ _
      have KA : Keep wr (W1.alloc (.cells #[.int .u32 x.code.at_, .int .u32 x.code.size, .int .u32 x.data.at_, .int .u32 x.data.size, .int .u32 x.stack.at_, .int .u32 x.stack.size] 61)) := hW1.alloc _
      go_simp
      apply Rel.ordK_loose (by rfl) (by rfl) (by rfl)
      intro W3 hW3
      have K3 := KA.trans hW3
      have B3 := BR.keep hW3
      refine gives_append W3 (.tmp 12) (.tmp 31) 36 rfl (w.heap.size + 1) 61 i0 _ 2 8 Tryz.underlying36 hi0 hz0 hz1 hz2 rfl (by decide) _ (k * 3) (spanRows ((i.parts.take k).flatMap threeS)) rfl (owns_keep HO.out K3) ⟨W1.heap.size, 0, none⟩ 3 3 (spanRows (threeS x)) rfl rfl
        (by
          intro j u hj
          match j, hj with
          | 0, hj => simp [threeS, spanRows, spanRow] at hj; subst hj; simp [Addr.add, B3.cells]
          | 1, hj => simp [threeS, spanRows, spanRow] at hj; subst hj; simp [Addr.add, B3.cells]
          | 2, hj => simp [threeS, spanRows, spanRow] at hj; subst hj; simp [Addr.add, B3.cells]
          | 3, hj => simp [threeS, spanRows, spanRow] at hj; subst hj; simp [Addr.add, B3.cells]
          | 4, hj => simp [threeS, spanRows, spanRow] at hj; subst hj; simp [Addr.add, B3.cells]
          | 5, hj => simp [threeS, spanRows, spanRow] at hj; subst hj; simp [Addr.add, B3.cells]
          | (n + 6), hj => simp [threeS, spanRows, spanRow] at hj) (spanRows_one _) (by unfold maxLen; omega) (by omega) (by have := K3.size; omega) ?_
      intro v' W' hown' hgrow
      have hS : ∀ g, Value.ownBlock _ = some g → w.heap.size + 1 ≤ g := fun g hg => (World.ownsRow.lt HO.out g hg).1
      have KB := grown_but hgrow (fun z => w.heap.size + 1 ≤ z) hS
      refine ⟨KB, ?_⟩
      have HB' := Lib.hid ((HB.out.keep K3).but KB (by omega))
      have HK' := Lib.hid ((HK.out.trans K3).butNew KB (fun z hz => by omega))
      have HO' := Lib.hid hown'
      clear hgrow hS KB hown' K3 B3 hW3 BR KA hW1
      go_simp
      repeat (apply Rel.ordK_step (by rfl) (by rfl) (by rfl)
              · intro W' hW'
                go_simp
                exact ⟨rfl, Keep.refl _⟩
              go_simp)
      apply Rel.ordK_end
      intro W5 hW5
      have KE := Lib.hid (HK'.out.trans hW5)
      have OE := Lib.hid (owns_keep HO'.out hW5)
      have BE := Lib.hid (HB'.out.keep hW5)
      clear hW5 HK' HO' HB'
      go_wp2_with fail
      refine ⟨⟨k + 1, h, by simp, ?_, BE.out, KE.out⟩, by simp [intOf]; omega⟩
      rw [HR.out, show (k + 1) * 3 = k * 3 + 3 by omega]
      exact OE.out
    · obtain rfl : k = i.parts.length := by omega
      have HE := Lib.hid HO.out
      rw [List.take_length] at HE
      obtain ⟨q, c, hv, hqc⟩ := ownForm HO.out
      have hend : spanRows (spansI i) = spanRows (i.parts.flatMap threeS) ++ spanRows i.shares := by rw [spansI_eq]; unfold spanRows; rw [List.flatMap_append]
      have hlen : (spansI i).length = i.parts.length * 3 + i.shares.length := by rw [spansI_eq, List.length_append, three_length]
      have b1 : wr.cell? ⟨w.heap.size, 1, none⟩ = some (.slice pp i.parts.length pc) := by rw [HB.out.cells]; rfl
      have b2 : wr.cell? ⟨w.heap.size, 2, none⟩ = some (.slice sp i.shares.length sc) := by rw [HB.out.cells]; rfl
      subst hv
      cases sp with
      | none =>
        have hs0 : i.shares = [] := by
          rcases HS.out with e | ⟨_, _, e, _⟩
          · exact e
          · cases e
        have hl0 : i.shares.length = 0 := by rw [hs0]; rfl
        rw [hl0] at b2
        go_wp2_with (at_builtin; refine wpList_append_nil rfl _ _ 36 rfl 61 i0 Tryz.underlying36 hi0 q _ c sc rfl rfl hqc ?_)
        go_ret
        refine ⟨_, rfl, ?_, HK.out⟩
        rw [hend, hlen, hs0]
        simpa [spanRows] using HE.out
      | some ad =>
        have hnews : ∀ j u, (spanRows i.shares)[j]? = some u → wr.cell? (ad.add j) = some u := by
          intro j u hj
          obtain ⟨p', cap', e1, _, _, e4⟩ := HL.out
          have e2 := Value.slice.inj e1
          rw [← e2.1] at e4
          rcases e4 with e4 | ⟨b', off', e4, _, e5⟩
          · rw [e4] at hj; simp at hj
          · obtain rfl : ad = ⟨b', off', none⟩ := Option.some.inj e4
            rw [show (⟨b', off', none⟩ : Addr).add j = ⟨b', off' + j, none⟩ by unfold Addr.add; split <;> simp_all]
            exact HK.out.cellOf (e5 j u hj)
        go_wp2_with (at_builtin; refine wpList_append_own _ rfl _ _ 36 rfl (w.heap.size + 1) 61 i0 _ 2 8 Tryz.underlying36 hi0 hz0 hz1 hz2 rfl (by decide) _ (i.parts.length * 3) (spanRows (i.parts.flatMap threeS)) rfl HE.out ad i.shares.length sc (spanRows i.shares) rfl (spanRows_length _) hnews (spanRows_one _) ?c3 ?c4 ?c5 ?_)
        case c3 => unfold maxLen; omega
        case c4 => omega
        case c5 => omega
        · intro v' w1 hown' hgrow _
          have hS : ∀ g, Value.ownBlock _ = some g → w.heap.size + 1 ≤ g := fun g hg => (World.ownsRow.lt HE.out g hg).1
          have KB := grown_but hgrow (fun z => w.heap.size + 1 ≤ z) hS
          have HK' := Lib.hid (HK.out.butNew KB (fun z hz => by omega))
          have HO' := Lib.hid hown'
          clear hgrow hS KB hown'
          go_wp2_with fail
          go_ret
          refine ⟨_, rfl, ?_, HK'.out⟩
          rw [hend, hlen]
          exact HO'.out
end Go.Proofs.YtmcbeclkocjlkaaGreatDoor

/- The reference's part: what is wrong of one. -/
namespace Go.Proofs.YtmcbeclkocjlkaaGreatDoor
set_option linter.unusedVariables false
set_option linter.unusedSimpArgs false
open Go Go.RowKit
def partF (g t z l : Bool) : Int := if g = false then 12 else if t = true then 13 else if z = true then 16 else if l = true then 15 else 0
theorem partE_F {i : ImgV} {k : Nat} {p : PartV} (h : i.parts[k]? = some p) : partE i k = partF (goodB p.name) ((i.parts.take k).any fun q => decide (q.name = p.name)) (p.code.size == 0) (decide ((64 : Int) < p.entries.length)) := by
  unfold partE partF
  rw [h]
  simp
  by_cases a : 64 < p.entries.length
  · have : (64 : Int) < p.entries.length := by omega
    simp [a, this]
  · have : ¬ (64 : Int) < p.entries.length := by omega
    simp [a, this]
def partCells (p : PartV) (ve : Value) : Array Value := #[.string p.name, .int .u32 p.code.at_, .int .u32 p.code.size, .int .u32 p.data.at_, .int .u32 p.data.size, .int .u32 p.stack.at_, .int .u32 p.stack.size, ve]
set_option maxHeartbeats 2000000 in
set_option maxRecDepth 100000 in
theorem rpart_any (i : ImgV) (vp vs vi vb : Value) (ves : List Value) (k : Nat) (w : World) (h : ImgAt w i vp vs vi vb ves) (hf : ImgFew i) (hk : k < i.parts.length) :
    Calls Tryz.prog 16 #[imgVal i vp vs vi vb, .int .i64 (k : Int)] w fun e w' => e = .returned (.int .i64 (partE i k)) ∧ Keep w w' := by
  obtain ⟨p, hp⟩ : ∃ p, i.parts[k]? = some p := ⟨_, List.getElem?_eq_getElem hk⟩
  obtain ⟨ve, hve⟩ : ∃ ve, ves[k]? = some ve := ⟨_, List.getElem?_eq_getElem (by have := h.nves; omega)⟩
  have nves := h.nves
  obtain ⟨ep, ec, hve2, hee, _, _⟩ := h.ents k p ve hp hve
  have fe := hf.ents p (List.mem_of_getElem? hp)
  have fp := hf.parts
  have CG := Lib.hid (fun W => rgood_any p.name (by have := hf.names p (List.mem_of_getElem? hp); omega) W)
  rw [partE_F hp]
  obtain ⟨q, cap, rfl, hcap, _, hx⟩ := h.partsAt
  rcases hx with e | ⟨b, off, rfl, hlt, hx⟩
  · rw [e] at hp; cases hp
  obtain ⟨n0, n1, n2, n3, n4, n5, n6, n7⟩ := hx k p ve hp hve
  subst hve2
  have HX := Lib.hid hx
  have HP := Lib.hid hp
  clear h hf hx hve
  have hki : (k : Int) < (i.parts.length : Int) := by omega
  unfold imgVal
  have K0 : Hid (Keep w ((w.alloc (.cells #[.int .u32 i.size, .slice (some ⟨b, off, none⟩) i.parts.length cap, vs, vi, .int .i64 i.start, .int .u32 i.addr, vb] 39)).alloc (.cells (partCells p (.slice ep p.entries.length ec)) 65))) := Lib.hid (((Keep.refl _).alloc _).alloc _)
  have B1 : Hid (Box ((w.alloc (.cells #[.int .u32 i.size, .slice (some ⟨b, off, none⟩) i.parts.length cap, vs, vi, .int .i64 i.start, .int .u32 i.addr, vb] 39)).alloc (.cells (partCells p (.slice ep p.entries.length ec)) 65)) w.heap.size #[.int .u32 i.size, .slice (some ⟨b, off, none⟩) i.parts.length cap, vs, vi, .int .i64 i.start, .int .u32 i.addr, vb]) := Lib.hid ((Box.new _ _ _).alloc _)
  have B2 : Hid (Box ((w.alloc (.cells #[.int .u32 i.size, .slice (some ⟨b, off, none⟩) i.parts.length cap, vs, vi, .int .i64 i.start, .int .u32 i.addr, vb] 39)).alloc (.cells (partCells p (.slice ep p.entries.length ec)) 65)) (w.heap.size + 1) (partCells p (.slice ep p.entries.length ec))) := Lib.hid (Box.new1 _ _ _ _)
  unfold partCells at K0 B1 B2
  go_enter Tryz.func16, Tryz.ntmps16
  cases hg : goodB p.name with
  | false =>
    rw [hg] at CG
    go_wp2_with ((with_reducible refine (CG.out _).mono ?_); rintro e w' ⟨rfl, rfl⟩)
    go_ret
    exact ⟨rfl, K0.out⟩
  | true =>
    rw [hg] at CG
    go_wp2_with ((with_reducible refine (CG.out _).mono ?_); rintro e w' ⟨rfl, rfl⟩)
    go_loopw [6] (fun v wr => ∃ j : Nat, j ≤ k ∧ v = .int .i64 (j : Int) ∧ (∀ (m : Nat) (x : PartV), m < j → i.parts[m]? = some x → decide (x.name = p.name) = false) ∧ Box wr w.heap.size #[.int .u32 i.size, .slice (some ⟨b, off, none⟩) i.parts.length cap, vs, vi, .int .i64 i.start, .int .u32 i.addr, vb] ∧ Box wr (w.heap.size + 1) #[.string p.name, .int .u32 p.code.at_, .int .u32 p.code.size, .int .u32 p.data.at_, .int .u32 p.data.size, .int .u32 p.stack.at_, .int .u32 p.stack.size, .slice ep p.entries.length ec] ∧ Keep w wr) (fun v _ => k - (intOf v).toNat)
    case atStart => exact ⟨0, Nat.zero_le _, rfl, fun m x hm => absurd hm (by omega), B1.out, B2.out, K0.out⟩
    case round =>
      obtain ⟨j, hj, rfl, hno, hB1, hB2, hK⟩ := hrel
      have j0 : (0 : Int) ≤ (j : Int) := Int.natCast_nonneg _
      have HN := Lib.hid hno
      have H1 := Lib.hid hB1
      have H2 := Lib.hid hB2
      have HK := Lib.hid hK
      clear hno hB1 hB2 hK K0 B1 B2 n0 n1 n2 n3 n4 n5 n6 n7
      by_cases h : j < k
      · obtain ⟨x, hx⟩ : ∃ x, i.parts[j]? = some x := ⟨_, List.getElem?_eq_getElem (by omega)⟩
        obtain ⟨vx, hvx⟩ : ∃ vx, ves[j]? = some vx := ⟨_, List.getElem?_eq_getElem (by omega)⟩
        have hji : (j : Int) < (k : Int) := by omega
        have hjp : (j : Int) < (i.parts.length : Int) := by omega
        have wj : IntKind.i64.wrap ((j : Int) + 1) = (j : Int) + 1 := by rw [IntKind.wrap_i64]; omega
        have C0 := Lib.hid (HK.out.cellOf (HX.out j x vx hx hvx).1)
        have HXX := Lib.hid hx
        clear hx hvx
        go_wp2_with fail
        refine region_grows (Keep _) (by kernel_rfl) (by kernel_rfl) (Keep.refl _).drew ?_
        repeat (first
          | (apply text_pass (by rfl); go_simp)
          | (apply text_step (by rfl)
             · intro W hW
               have c1 := (H1.out.keep hW).cells
               have c2 := (H2.out.keep hW).cells
               have c3 := hW.cellOf C0.out
               go_simp
               exact ⟨rfl, hW⟩
             go_simp))
        apply text_end
        intro W hW
        have KW := Lib.hid (HK.out.trans hW)
        have G1 := Lib.hid (H1.out.keep hW)
        have G2 := Lib.hid (H2.out.keep hW)
        clear hW
        go_wp2_with fail
        · have d : (x.name.toList == p.name.toList) = true := by assumption
          have e : x.name = p.name := by
            rw [ostr_beq] at d
            exact of_decide_eq_true d
          have HA := Lib.hid (any_take_at (fun q => decide (q.name = p.name)) i.parts k j x h HXX.out (decide_eq_true e))
          go_ret
          refine ⟨?_, KW.out⟩
          rw [HA.out]
          rfl
        · have d : (x.name.toList == p.name.toList) = false := by assumption
          have e : decide (x.name = p.name) = false := by rw [ostr_beq] at d; exact d
          have HN' : Hid (∀ (m : Nat) (y : PartV), m < j + 1 → i.parts[m]? = some y → decide (y.name = p.name) = false) := Lib.hid (fun m y hm hy => by
            by_cases em : m = j
            · subst em
              rw [HXX.out] at hy
              obtain rfl := Option.some.inj hy
              exact e
            · exact HN.out m y (by omega) hy)
          clear e
          exact ⟨⟨j + 1, h, by simp, HN'.out, G1.out, G2.out, KW.out⟩, by simp [intOf]; omega⟩
      · obtain rfl : j = k := by omega
        have HA := Lib.hid (any_take (fun q => decide (q.name = p.name)) i.parts j (by omega) HN.out)
        have c1 := H1.out.cells
        have c2 := H2.out.cells
        clear HN HX HP
        rcases Bool.eq_false_or_eq_true (p.code.size == 0) with z | z
        · go_wp2_with fail
          go_ret
          refine ⟨?_, HK.out⟩
          rw [HA.out]
          first | rfl | (rw [z]; rfl)
        · by_cases hl : (64 : Int) < (p.entries.length : Int)
          · have hd := decide_eq_true hl
            go_wp2_with fail
            go_ret
            refine ⟨?_, HK.out⟩
            rw [HA.out]
            first | rfl | (rw [z, hd]; rfl) | (rw [z]; rfl) | (rw [hd]; rfl)
          · have hd := decide_eq_false hl
            go_wp2_with fail
            go_ret
            refine ⟨?_, HK.out⟩
            rw [HA.out]
            first | rfl | (rw [z, hd]; rfl) | (rw [z]; rfl) | (rw [hd]; rfl)
end Go.Proofs.YtmcbeclkocjlkaaGreatDoor

/- What is few is of no great size. -/
namespace Go.Proofs.YtmcbeclkocjlkaaGreatDoor
set_option linter.unusedVariables false
set_option linter.unusedSimpArgs false
open Go Go.RowKit
theorem ImgFew.mid {i : ImgV} (h : ImgFew i) : ImgMid i := by
  refine ⟨?_, ?_, ?_, ?_, fun p hp => ?_, fun p hp => ?_⟩
  · have := h.parts; omega
  · have := h.shares; omega
  · have := h.inits; omega
  · have := h.bytes; omega
  · have := h.names p hp; omega
  · have := h.ents p hp; omega
end Go.Proofs.YtmcbeclkocjlkaaGreatDoor
