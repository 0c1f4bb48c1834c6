/- ImgPPut, ImgPSp, ImgPIn, ImgPPa, ImgPNf: The program's putNumbers: numbers behind what is its own. -/
import Derived.Test.YtmcbeclkocjlkaaDoorGRdrC
import Derived.Test.YtmcbeclkocjlkaaDoorImgAt
import Derived.Maps.AppendAt
import Derived.IntWalk
/- The program's putNumbers: numbers behind what is its own. -/
namespace Go.Proofs.YtmcbeclkocjlkaaDoor
set_option linter.unusedVariables false
set_option linter.unusedSimpArgs false
open Go Go.RowKit
/-- Numbers where a slice says, in no block that grows. -/
def NumsIn (w : World) (vn : Value) (ns : List Nat) (v : Value) : Prop := ∃ p cap, vn = .slice p ns.length cap ∧ ns.length ≤ cap ∧ (ns = [] ∨ ∃ b off, p = some ⟨b, off, none⟩ ∧ b < w.heap.size ∧ v.ownBlock ≠ some b ∧ ∀ (k : Nat) (n : Nat), ns[k]? = some n → w.cell? ⟨b, off + k, none⟩ = some (.int .u32 (n : Int)))
theorem nums_length (l : List Nat) : (l.flatMap num4).length = l.length * 4 := by
  induction l with
  | nil => rfl
  | cons a l ih => rw [List.flatMap_cons, List.length_append, ih, num4_length, List.length_cons]; omega
theorem grown_cell {w w' : World} {row : Option Nat} (g : w.grownBy w' row) {b o : Nat} {u : Value} (hb : b < w.heap.size) (hn : row ≠ some b) (h : w.cell? ⟨b, o, none⟩ = some u) : w'.cell? ⟨b, o, none⟩ = some u := by
  rw [← h]
  simp only [World.cell?, g.block b hb hn.symm]
set_option maxHeartbeats 4000000 in
set_option maxRecDepth 100000 in
theorem inums_any (B : Nat) (v : Value) (xs ns : List Nat) (hn : ∀ n ∈ ns, n < 4294967296) (nfew : ns.length ≤ 1000) (few : xs.length ≤ 500000) (w : World) (hB : B ≤ w.heap.size) (h : Own8 w B v xs) (vn : Value) (hv : NumsIn w vn ns v) :
    Calls Tryd.prog 20 #[v, vn] w (PutR w B v (xs ++ ns.flatMap num4)) := by
  obtain ⟨i0, hi0, hz0, hz1, hz2⟩ := oinfo_parts infoU8
  have HS := Lib.hid h
  have HN := Lib.hid hn
  obtain ⟨p, cap, rfl, hcap, hp⟩ := hv
  have HP := Lib.hid hp
  clear h hn hp
  go_enter Tryd.func20, Tryd.ntmps20
  go_wp2_with fail
  go_loopw [0, 6, 7, 10] (fun b _ _ i wr => ∃ (k : Nat) (v' : Value), k ≤ ns.length ∧ i = .int .i64 (k : Int) ∧ b = v' ∧ Own8 wr B v' (xs ++ (ns.take k).flatMap num4) ∧ w.grownBy wr v.ownBlock ∧ OwnTo w v.ownBlock v'.ownBlock) (fun _ _ _ i _ => ns.length - (intOf i).toNat)
  case atStart => exact ⟨0, v, Nat.zero_le _, rfl, rfl, by simpa using HS.out, grow_refl _ _, .inl rfl⟩
  case round =>
    obtain ⟨k, v', hk, rfl, rfl, hO, hG, hT⟩ := hrel
    have G0 := Lib.hid (And.intro hG hT)
    by_cases hlt : k < ns.length
    · obtain ⟨n, hnk⟩ : ∃ n, ns[k]? = some n := ⟨_, List.getElem?_eq_getElem hlt⟩
      have hn32 : n < 4294967296 := HN.out n (List.mem_of_getElem? hnk)
      have hki : (k : Int) < (ns.length : Int) := by omega
      have TK := Lib.hid (take_flatN num4 ns k n hnk)
      obtain ⟨b, off, hp, hb, hne, hc⟩ : ∃ b off, p = some ⟨b, off, none⟩ ∧ b < w.heap.size ∧ v.ownBlock ≠ some b ∧ ∀ (k : Nat) (n : Nat), ns[k]? = some n → w.cell? ⟨b, off + k, none⟩ = some (.int .u32 (n : Int)) := by
        rcases HP.out with e | e
        · rw [e] at hlt; simp at hlt
        · exact e
      have c0 := grown_cell hG hb hne (hc k n hnk)
      subst hp
      obtain ⟨ys, hys⟩ : ∃ ys, ys = xs ++ (ns.take k).flatMap num4 := ⟨_, rfl⟩
      have HY : Hid (ys.length ≤ 600000) := Lib.hid (by
        have h1 : ((ns.take k).flatMap num4).length ≤ (ns.flatMap num4).length := len_take_flat num4 ns k
        have h2 : (ns.flatMap num4).length = ns.length * 4 := nums_length ns
        rw [hys, List.length_append]; omega)
      rw [← hys] at hO
      have H0 := Lib.hid hO
      have HYS := Lib.hid hys
      clear hO hG hT hys hnk hc hb hne
      go_wp2_with fail
      refine wp_loop_rounds 5 ?_
      rw [rounds_succ]
      go_wp2_with (at_builtin; (refine wpList_append_own_at _ rfl _ _ 26 rfl B 5 i0 _ 1 1 Tryd.underlying26 hi0 hz0 hz1 hz2 rfl (by decide) _ _ _ rfl (World.ownsRow.alloc H0.out _) ⟨wr.heap.size, 0, none⟩ 1 1 [.int .u8 ((n : Int) % 256)] rfl rfl (byte_cell _ _ _) ?d0 ?e0 ?f0 ?g0 ?_))
      case d0 => intro u hu; simp at hu; subst hu; rfl
      case e0 => have := HY.out; unfold maxLen; simp; omega
      case f0 => have := HY.out; simp; omega
      case g0 => have := G0.out.1.size; simp; omega
      intro v1 w1 hown hgrow _ hblk
      rw [show (n : Int) % 256 = ((n % 256 : Nat) : Int) by omega] at hown
      have H1 : Hid (Own8 w1 B v1 (ys ++ [n % 256])) := Lib.hid (by unfold Own8; simpa [byteV] using hown)
      have G1 := Lib.hid (put_step G0.out.1 G0.out.2 hgrow (hblk.imp id (fun h => ⟨_, h, by first | omega | simp⟩)))
      clear hown hgrow hblk
      go_wp2_with fail
      rw [rounds_succ]
      go_wp2_with (at_builtin; (refine wpList_append_own_at _ rfl _ _ 26 rfl B 5 i0 _ 1 1 Tryd.underlying26 hi0 hz0 hz1 hz2 rfl (by decide) _ _ _ rfl (World.ownsRow.alloc H1.out _) ⟨w1.heap.size, 0, none⟩ 1 1 [.int .u8 ((n : Int) / 256 % 256)] rfl rfl (byte_cell _ _ _) ?d1 ?e1 ?f1 ?g1 ?_))
      case d1 => intro u hu; simp at hu; subst hu; rfl
      case e1 => have := HY.out; unfold maxLen; simp; omega
      case f1 => have := HY.out; simp; omega
      case g1 => have := G1.out.1.size; simp; omega
      intro v2 w2 hown hgrow _ hblk
      rw [show (n : Int) / 256 % 256 = ((n / 256 % 256 : Nat) : Int) by omega] at hown
      have H2 : Hid (Own8 w2 B v2 (ys ++ [n % 256, n / 256 % 256])) := Lib.hid (by unfold Own8; simpa [byteV] using hown)
      have G2 := Lib.hid (put_step G1.out.1 G1.out.2 hgrow (hblk.imp id (fun h => ⟨_, h, by first | omega | simp⟩)))
      clear hown hgrow hblk
      go_wp2_with fail
      rw [rounds_succ]
      go_wp2_with (at_builtin; (refine wpList_append_own_at _ rfl _ _ 26 rfl B 5 i0 _ 1 1 Tryd.underlying26 hi0 hz0 hz1 hz2 rfl (by decide) _ _ _ rfl (World.ownsRow.alloc H2.out _) ⟨w2.heap.size, 0, none⟩ 1 1 [.int .u8 ((n : Int) / 65536 % 256)] rfl rfl (byte_cell _ _ _) ?d2 ?e2 ?f2 ?g2 ?_))
      case d2 => intro u hu; simp at hu; subst hu; rfl
      case e2 => have := HY.out; unfold maxLen; simp; omega
      case f2 => have := HY.out; simp; omega
      case g2 => have := G2.out.1.size; simp; omega
      intro v3 w3 hown hgrow _ hblk
      rw [show (n : Int) / 65536 % 256 = ((n / 65536 % 256 : Nat) : Int) by omega] at hown
      have H3 : Hid (Own8 w3 B v3 (ys ++ [n % 256, n / 256 % 256, n / 65536 % 256])) := Lib.hid (by unfold Own8; simpa [byteV] using hown)
      have G3 := Lib.hid (put_step G2.out.1 G2.out.2 hgrow (hblk.imp id (fun h => ⟨_, h, by first | omega | simp⟩)))
      clear hown hgrow hblk
      go_wp2_with fail
      rw [rounds_succ]
      go_wp2_with (at_builtin; (refine wpList_append_own_at _ rfl _ _ 26 rfl B 5 i0 _ 1 1 Tryd.underlying26 hi0 hz0 hz1 hz2 rfl (by decide) _ _ _ rfl (World.ownsRow.alloc H3.out _) ⟨w3.heap.size, 0, none⟩ 1 1 [.int .u8 ((n : Int) / 16777216)] rfl rfl (byte_cell _ _ _) ?d3 ?e3 ?f3 ?g3 ?_))
      case d3 => intro u hu; simp at hu; subst hu; rfl
      case e3 => have := HY.out; unfold maxLen; simp; omega
      case f3 => have := HY.out; simp; omega
      case g3 => have := G3.out.1.size; simp; omega
      intro v4 w4 hown hgrow _ hblk
      rw [show (n : Int) / 16777216 = ((n / 16777216 % 256 : Nat) : Int) by omega] at hown
      have H4 : Hid (Own8 w4 B v4 (ys ++ [n % 256, n / 256 % 256, n / 65536 % 256, n / 16777216 % 256])) := Lib.hid (by unfold Own8; simpa [byteV] using hown)
      have G4 := Lib.hid (put_step G3.out.1 G3.out.2 hgrow (hblk.imp id (fun h => ⟨_, h, by first | omega | simp⟩)))
      clear hown hgrow hblk
      go_wp2_with fail
      rw [rounds_succ]
      go_wp2_with fail
      go_roundw
      case rel => exact ⟨k + 1, v4, hlt, by go_num, rfl, by rw [TK.out, ← List.append_assoc, ← HYS.out]; exact H4.out, G4.out.1, G4.out.2⟩
      case measure => simp [intOf]; omega
    · obtain rfl : k = ns.length := by omega
      have H0 := Lib.hid hO
      clear hO hG hT
      go_wp2_with fail
      go_ret
      exact ⟨_, rfl, by simpa using H0.out, G0.out.1, G0.out.2⟩
end Go.Proofs.YtmcbeclkocjlkaaDoor

/- The program's putSpan. -/
namespace Go.Proofs.YtmcbeclkocjlkaaDoor
set_option linter.unusedVariables false
set_option linter.unusedSimpArgs false
open Go Go.RowKit
theorem PutR.from {w W : World} {B : Nat} {v : Value} {ys : List Nat} {e : Ending} {w' : World} (k : Keep w W) (h : PutR W B v ys e w') : PutR w B v ys e w' := by
  obtain ⟨v', rfl, o, g, t⟩ := h
  exact ⟨v', rfl, o, grow_trans (keep_grow k _) (.inl rfl) g, OwnTo.trans k.size (.inl rfl) t⟩
/-- A literal's numbers. -/
theorem numsIn_box {w : World} {b : Nat} {vs : Array Value} {ns : List Nat} {v : Value} (hB : Box w b vs) (hv : v.ownBlock ≠ some b) (he : vs.toList = ns.map (fun (n : Nat) => Value.int .u32 (n : Int))) : NumsIn w (.slice (some ⟨b, 0, none⟩) ns.length ns.length) ns v := by
  refine ⟨_, _, rfl, Nat.le_refl _, .inr ⟨b, 0, rfl, hB.lt, hv, fun k n hk => ?_⟩⟩
  rw [Nat.zero_add, hB.cells, ← Array.getElem?_toList, he, List.getElem?_map, hk]
  rfl
/-- What lies in a world ahead. -/
theorem numsIn_at {w : World} {vn v : Value} {l : List Int} {ns : List Nat} (h : SlAt w vn l.length (l.map u32V)) (hl : l = ns.map (fun (n : Nat) => (n : Int))) (hv : ∀ g, v.ownBlock = some g → w.heap.size ≤ g) : NumsIn w vn ns v := by
  subst hl
  obtain ⟨p, cap, rfl, h1, _, h3⟩ := h
  refine ⟨p, cap, by simp, by simpa using h1, ?_⟩
  rcases h3 with h3 | ⟨b, off, rfl, hb, hc⟩
  · left
    have := congrArg List.length h3
    simp at this
    exact this
  · refine .inr ⟨b, off, rfl, hb, fun e => by have := hv b e; omega, fun k n hk => hc k _ ?_⟩
    rw [List.getElem?_map, List.getElem?_map, hk]
    rfl
theorem NumsIn.keep {w w' : World} {vn v : Value} {ns : List Nat} (h : NumsIn w vn ns v) (k : Keep w w') : NumsIn w' vn ns v := by
  obtain ⟨p, cap, rfl, h1, h2⟩ := h
  refine ⟨p, cap, rfl, h1, ?_⟩
  rcases h2 with h2 | ⟨b, off, rfl, hb, hv, hc⟩
  · exact .inl h2
  · exact .inr ⟨b, off, rfl, Nat.lt_of_lt_of_le hb k.size, hv, fun j n hj => k.cellOf (hc j n hj)⟩
theorem own_ne {v v5 : Value} {W : World} {gn : Nat} (b5 : v5.ownBlock = v.ownBlock ∨ ∃ y, v5.ownBlock = some y ∧ W.heap.size ≤ y) (hv : ∀ z, v.ownBlock = some z → z < gn) (hg : gn < W.heap.size) : v5.ownBlock ≠ some gn := fun e => by
  rcases b5 with b | ⟨y, b, hy⟩
  · rw [b] at e; have := hv _ e; omega
  · rw [b] at e; simp only [Option.some.injEq] at e; omega
set_option maxHeartbeats 4000000 in
set_option maxRecDepth 100000 in
theorem ispanB_aux (B : Nat) (v : Value) (xs : List Nat) (a b : Nat) (ha : a < 4294967296) (hb : b < 4294967296) (few : xs.length ≤ 500000) (w : World) (hB : B ≤ w.heap.size) (h : Own8 w B v xs) :
    Calls Tryd.prog 22 #[v, .agg #[.int .u32 (a : Int), .int .u32 (b : Int)]] w (PutR w B v (xs ++ (num4 a ++ num4 b))) := by
  obtain ⟨W1, hW1⟩ : ∃ W1, W1 = (w.alloc (.cells #[.int .u32 (a : Int), .int .u32 (b : Int)] 36)).alloc (.cells #[.int .u32 (a : Int), .int .u32 (b : Int)] 22) := ⟨_, rfl⟩
  have K1 : Hid (Keep w W1) := Lib.hid (by rw [hW1]; exact ((Keep.refl _).alloc _).alloc _)
  have BL : Hid (Box W1 (w.heap.size + 1) #[.int .u32 (a : Int), .int .u32 (b : Int)]) := Lib.hid (by rw [hW1]; exact Box.new1 _ _ _ _)
  have C := Lib.hid (inums_any B v xs [a, b] (by intro n hn; simp at hn; omega) (by simp) few W1 (Nat.le_trans hB K1.out.size) (owns_keep h K1.out) _ (numsIn_box BL.out (fun e => by have := (h.lt _ e).2; omega) rfl))
  have E : Hid ([a, b].flatMap num4 = num4 a ++ num4 b) := Lib.hid (by simp)
  rw [E.out] at C
  clear h
  go_enter Tryd.func22, Tryd.ntmps22
  go_wp2_with fail
  rw [← hW1]
  clear hW1
  refine C.out.mono ?_
  rintro e w2 hp
  obtain ⟨v2, rfl, h2, g2, t2⟩ := PutR.from K1.out hp
  have H2 := Lib.hid h2
  have G2 := Lib.hid g2
  have T2 := Lib.hid t2
  clear hp h2 g2 t2 C
  go_wp2_with fail
  go_ret
  exact ⟨v2, rfl, H2.out, G2.out, T2.out⟩
theorem ispanB_any (B : Nat) (v : Value) (xs : List Nat) (s : SpanV) (hs : SpanOk s) (few : xs.length ≤ 500000) (w : World) (hB : B ≤ w.heap.size) (h : Own8 w B v xs) :
    Calls Tryd.prog 22 #[v, .agg #[.int .u32 s.at_, .int .u32 s.size]] w (PutR w B v (xs ++ spanB s)) := by
  obtain ⟨a, b⟩ := s
  obtain ⟨⟨a0, a1⟩, b0, b1⟩ := hs
  dsimp only at a0 a1 b0 b1 ⊢
  obtain ⟨n, rfl⟩ : ∃ n : Nat, a = (n : Int) := ⟨a.toNat, by omega⟩
  obtain ⟨m, rfl⟩ : ∃ m : Nat, b = (m : Int) := ⟨b.toNat, by omega⟩
  exact ispanB_aux B v xs n m (by omega) (by omega) few w hB h
end Go.Proofs.YtmcbeclkocjlkaaDoor

/- The program's putInit. -/
namespace Go.Proofs.YtmcbeclkocjlkaaDoor
set_option linter.unusedVariables false
set_option linter.unusedSimpArgs false
open Go Go.RowKit
set_option maxHeartbeats 4000000 in
set_option maxRecDepth 100000 in
theorem iinitB_aux (B : Nat) (v : Value) (xs : List Nat) (c a k : Nat) (d : Bool) (f ad pm : Nat) (h1 : c < 4294967296) (h2 : a < 4294967296) (h3 : k < 4294967296) (h4 : f < 4294967296) (h5 : ad < 4294967296) (h6 : pm < 65536) (few : xs.length ≤ 400000) (w : World) (hB : B ≤ w.heap.size) (h : Own8 w B v xs) :
    Calls Tryd.prog 23 #[v, .agg #[.int .i64 (c : Int), .int .u32 (a : Int), .int .i64 (k : Int), .bool d, .int .i64 (f : Int), .int .u32 (ad : Int), .int .u16 (pm : Int)]] w (PutR w B v (xs ++ (num4 c ++ (num4 a ++ (num4 k ++ ((if d = true then 1 else 0) :: (num4 f ++ (num4 ad ++ num4 pm)))))))) := by
  obtain ⟨i0, hi0, hz0, hz1, hz2⟩ := oinfo_parts infoU8
  obtain ⟨W0, hW0⟩ : ∃ W0, W0 = w.alloc (.cells #[.int .i64 (c : Int), .int .u32 (a : Int), .int .i64 (k : Int), .bool d, .int .i64 (f : Int), .int .u32 (ad : Int), .int .u16 (pm : Int)] 43) := ⟨_, rfl⟩
  obtain ⟨W1, hW1⟩ : ∃ W1, W1 = W0.alloc (.cells #[.int .u32 (c : Int), .int .u32 (a : Int), .int .u32 (k : Int)] 22) := ⟨_, rfl⟩
  have K0 : Hid (Keep w W0) := Lib.hid (by rw [hW0]; exact (Keep.refl _).alloc _)
  have K1 : Hid (Keep W0 W1) := Lib.hid (by rw [hW1]; exact (Keep.refl _).alloc _)
  have BS : Hid (Box W0 w.heap.size #[.int .i64 (c : Int), .int .u32 (a : Int), .int .i64 (k : Int), .bool d, .int .i64 (f : Int), .int .u32 (ad : Int), .int .u16 (pm : Int)]) := Lib.hid (by rw [hW0]; exact Box.new _ _ _)
  have BL : Hid (Box W1 (w.heap.size + 1) #[.int .u32 (c : Int), .int .u32 (a : Int), .int .u32 (k : Int)]) := Lib.hid (by rw [hW1, hW0]; exact Box.new1 _ _ _ _)
  have NB : ∀ g, v.ownBlock = some g → g < w.heap.size := fun g hg => (h.lt g hg).2
  have NS := Lib.hid (show v.ownBlock ≠ some w.heap.size from fun e => by have := NB _ e; omega)
  have C := Lib.hid (inums_any B v xs [c, a, k] (by intro n hn; simp at hn; omega) (by simp) (by omega) W1 (Nat.le_trans hB (Nat.le_trans K0.out.size K1.out.size)) (owns_keep h (K0.out.trans K1.out)) _ (numsIn_box BL.out (fun e => by have := NB _ e; have := K0.out.size; omega) rfl))
  have P0 : Hid (PutAt W0 B v.ownBlock v xs W0) := Lib.hid ⟨owns_keep h K0.out, grow_refl _ _, .inl rfl⟩
  have E : Hid (xs ++ [c, a, k].flatMap num4 = xs ++ (num4 c ++ (num4 a ++ num4 k))) := Lib.hid (by simp)
  rw [E.out] at C
  have hB0 : Hid (B ≤ W0.heap.size) := Lib.hid (Nat.le_trans hB K0.out.size)
  have wr1 : IntKind.u32.wrap (c : Int) = (c : Int) := IntWalk.u32_in _ (by omega)
  have wr2 : IntKind.u32.wrap (k : Int) = (k : Int) := IntWalk.u32_in _ (by omega)
  have wr3 : IntKind.u32.wrap (f : Int) = (f : Int) := IntWalk.u32_in _ (by omega)
  have wr4 : IntKind.u32.wrap (pm : Int) = (pm : Int) := IntWalk.u32_in _ (by omega)
  have HF := Lib.hid (And.intro h4 (And.intro h5 h6))
  have LX : Hid ((xs ++ (num4 c ++ (num4 a ++ num4 k))).length ≤ 400012) := Lib.hid (by simp only [List.length_append, num4_length]; omega)
  obtain ⟨ys, hys⟩ : ∃ ys, ys = xs ++ (num4 c ++ (num4 a ++ num4 k)) := ⟨_, rfl⟩
  rw [← hys] at C LX
  have HYS := Lib.hid hys
  clear h hys h1 h2 h3 h4 h5 h6 NB
  cases d
  all_goals (
    go_enter Tryd.func23, Tryd.ntmps23
    go_wp2_with fail
    rw [← hW0]
    rw [← hW1]
    clear hW0 hW1
    refine C.out.mono ?_
    rintro e w2 hp
    obtain ⟨v2, rfl, o2, g2, t2⟩ := PutR.from K1.out hp
    have P := Lib.hid (P0.out.next o2 g2 t2)
    have BI := Lib.hid (P.out.box BS.out NS.out)
    have cI := BI.out.cells
    clear hp o2 g2 t2 C P0 E
    go_wp2_with fail
    clear cI
    refine Rel.regionP (KeepBut (fun z => v.ownBlock = some z ∨ W0.heap.size ≤ z)) (butWay _) [] [0, 1, 4, 5, 6, 7, 8, 9, 10, 11] 5 (by kernel_rfl) (by kernel_rfl) (Keep.refl _) ?_
    repeat (apply Rel.pre_step (by rfl) (by rfl) (by rfl)
            · intro W' hW'
              have cS := (BI.out.but hW' (by rintro (e | e); exact NS.out e; have := BS.out.lt; omega)).cells
              go_simp
              exact ⟨rfl, Keep.refl _⟩
            go_simp)
    apply Rel.pre_end
    refine Rel.every_two 2 12 (by kernel_rfl) (by rfl) (by rfl) (by rfl) (by rfl) ?_ ?_)
  · intro W2 h2
    go_simp
    apply Rel.gives_value
    refine ⟨((Keep.refl _).alloc _).but _, ?_⟩
    have PP := Lib.hid (P.out.keep (h2.alloc (.cells #[.int .u8 (0 : Int)] 5)))
    have BB := Lib.hid (Box.new W2 #[.int .u8 (0 : Int)] 5)
    obtain ⟨gb, hgb⟩ : ∃ gb, gb = W2.heap.size := ⟨_, rfl⟩
    have GSgb : W0.heap.size ≤ gb := by rw [hgb]; exact (P.out.keep h2).grown.size
    have NEgb := Lib.hid (show ∀ z, _ = some z → z < gb from fun z hz => by rw [hgb]; exact ((P.out.keep h2).own.lt z hz).2)
    rw [← hgb] at BB ⊢
    obtain ⟨WB, hWB⟩ : ∃ WB, WB = W2.alloc (.cells #[.int .u8 (0 : Int)] 5) := ⟨_, rfl⟩
    rw [← hWB] at PP BB ⊢
    clear hWB hgb h2
    clear P
    have P := Lib.hid PP.out
    clear PP
    go_simp
    refine Rel.every_two 3 12 (by kernel_rfl) (by rfl) (by rfl) (by rfl) (by rfl) ?_ ?_
    · intro W4 h4
      have P4 := Lib.hid (P.out.keep h4)
      have B4 := BB.out.keep h4
      refine gives_append_src W4 (.tmp 19) (.tmp 21) 26 26 rfl B 5 i0 _ 1 1 Tryd.underlying26 hi0 hz0 hz1 hz2 rfl _ _ _ rfl P4.out.own (.slice (some ⟨gb, 0, none⟩) 1 1) 1 [.int .u8 (0 : Int)] rfl (Src.ofSlice W4 Tryd.underlying26 _ 1 1 _ rfl (fun j u hj => by match j, hj with | 0, hj => simp at hj; subst hj; simp [Addr.add, B4.cells] | j + 1, hj => simp at hj) (fun u hu => by simp at hu; subst hu; rfl)) (by have := LX.out; unfold maxLen; omega) (by have := LX.out; omega) (by have := P4.out.grown.size; have := hB0.out; omega) ?_
      intro v5 V5 o5 g5 b5
      refine ⟨P4.out.but g5, ?_⟩
      have PP := Lib.hid (P4.out.next (append_own (y := 0) o5 rfl rfl) g5 b5)
      skip
      skip
      clear o5 g5 b5 h4 B4 P4
      clear P
      have P := Lib.hid PP.out
      clear PP
      go_simp
      apply Rel.every_one 12 (by kernel_rfl) (by rfl) (by rfl)
      intro W2 h2
      go_simp
      apply Rel.gives_value
      refine ⟨((Keep.refl _).alloc _).but _, ?_⟩
      have PP := Lib.hid (P.out.keep (h2.alloc (.cells #[.int .u32 (f : Int), .int .u32 (ad : Int), .int .u32 (pm : Int)] 22)))
      have BN := Lib.hid (Box.new W2 #[.int .u32 (f : Int), .int .u32 (ad : Int), .int .u32 (pm : Int)] 22)
      obtain ⟨gn, hgb⟩ : ∃ gn, gn = W2.heap.size := ⟨_, rfl⟩
      have GSgn : W0.heap.size ≤ gn := by rw [hgb]; exact (P.out.keep h2).grown.size
      have NEgn := Lib.hid (show ∀ z, _ = some z → z < gn from fun z hz => by rw [hgb]; exact ((P.out.keep h2).own.lt z hz).2)
      rw [← hgb] at BN ⊢
      obtain ⟨WB, hWB⟩ : ∃ WB, WB = W2.alloc (.cells #[.int .u32 (f : Int), .int .u32 (ad : Int), .int .u32 (pm : Int)] 22) := ⟨_, rfl⟩
      rw [← hWB] at PP BN ⊢
      clear hWB hgb h2
      clear P
      have P := Lib.hid PP.out
      clear PP
      go_simp
      have NEV := Lib.hid (show Value.ownBlock _ ≠ some gn from fun e => by have := NEgn.out _ e; omega)
      apply Rel.every_one 13 (by kernel_rfl) (by rfl) (by rfl)
      intro W6 h6
      have P6 := Lib.hid (P.out.keep h6)
      go_simp
      apply Rel.gives_enter
      go_at_call 20
      refine (inums_any B _ _ [f, ad, pm] (by intro n hn; have := HF.out; simp at hn; omega) (by simp) (by have := LX.out; simp only [List.length_append, List.length_cons, List.length_nil]; omega) W6 (by have := P6.out.grown.size; have := hB0.out; omega) P6.out.own _ (numsIn_box (BN.out.keep h6) NEV.out rfl)).mono ?_
      rintro e w7 ⟨v7, rfl, o7, g7, b7⟩
      refine ⟨_, rfl, P6.out.but g7, ?_⟩
      have PP := Lib.hid (P6.out.next o7 g7 b7)
      clear o7 g7 b7 h6 P6
      clear P
      have P := Lib.hid PP.out
      clear PP
      go_simp
      apply Rel.every_one 14 (by kernel_rfl) (by rfl) (by rfl)
      intro W8 h8
      go_simp
      apply Rel.gives_value
      refine ⟨KeepBut.refl _ _, ?_⟩
      have PP := Lib.hid (P.out.keep h8)
      clear h8
      clear P
      have P := Lib.hid PP.out
      clear PP
      go_simp
      refine Rel.every_end (by kernel_rfl) ?_
      intro W9 h9
      have PP := Lib.hid (P.out.keep h9)
      clear h9
      clear P
      have P := Lib.hid PP.out
      clear PP
      go_wp2_with fail
      go_ret
      refine ⟨_, rfl, ?_, grow_trans (keep_grow K0.out _) (.inl rfl) P.out.grown, OwnTo.trans K0.out.size (.inl rfl) P.out.to⟩
      have o := P.out.own
      rw [HYS.out] at o
      simpa [List.append_assoc] using o
    · intro W2 h2
      go_simp
      apply Rel.gives_value
      refine ⟨((Keep.refl _).alloc _).but _, ?_⟩
      have BB := Lib.hid (BB.out.keep (h2.alloc (.cells #[.int .u32 (f : Int), .int .u32 (ad : Int), .int .u32 (pm : Int)] 22)))
      have PP := Lib.hid (P.out.keep (h2.alloc (.cells #[.int .u32 (f : Int), .int .u32 (ad : Int), .int .u32 (pm : Int)] 22)))
      have BN := Lib.hid (Box.new W2 #[.int .u32 (f : Int), .int .u32 (ad : Int), .int .u32 (pm : Int)] 22)
      obtain ⟨gn, hgb⟩ : ∃ gn, gn = W2.heap.size := ⟨_, rfl⟩
      have GSgn : W0.heap.size ≤ gn := by rw [hgb]; exact (P.out.keep h2).grown.size
      have NEgn := Lib.hid (show ∀ z, _ = some z → z < gn from fun z hz => by rw [hgb]; exact ((P.out.keep h2).own.lt z hz).2)
      rw [← hgb] at BN ⊢
      obtain ⟨WB, hWB⟩ : ∃ WB, WB = W2.alloc (.cells #[.int .u32 (f : Int), .int .u32 (ad : Int), .int .u32 (pm : Int)] 22) := ⟨_, rfl⟩
      rw [← hWB] at PP BN BB ⊢
      clear hWB hgb h2
      clear P
      have P := Lib.hid PP.out
      clear PP
      go_simp
      apply Rel.every_one 3 (by kernel_rfl) (by rfl) (by rfl)
      intro W4 h4
      have P4 := Lib.hid (P.out.keep h4)
      have B4 := BB.out.keep h4
      refine gives_append_src W4 (.tmp 19) (.tmp 21) 26 26 rfl B 5 i0 _ 1 1 Tryd.underlying26 hi0 hz0 hz1 hz2 rfl _ _ _ rfl P4.out.own (.slice (some ⟨gb, 0, none⟩) 1 1) 1 [.int .u8 (0 : Int)] rfl (Src.ofSlice W4 Tryd.underlying26 _ 1 1 _ rfl (fun j u hj => by match j, hj with | 0, hj => simp at hj; subst hj; simp [Addr.add, B4.cells] | j + 1, hj => simp at hj) (fun u hu => by simp at hu; subst hu; rfl)) (by have := LX.out; unfold maxLen; omega) (by have := LX.out; omega) (by have := P4.out.grown.size; have := hB0.out; omega) ?_
      intro v5 V5 o5 g5 b5
      refine ⟨P4.out.but g5, ?_⟩
      have PP := Lib.hid (P4.out.next (append_own (y := 0) o5 rfl rfl) g5 b5)
      have N5 := Lib.hid (grown_box g5 (BN.out.keep h4) (fun e => by have := NEgn.out _ e.symm; omega))
      have NEV := Lib.hid (own_ne b5 NEgn.out (BN.out.keep h4).lt)
      clear o5 g5 b5 h4 B4 P4
      clear P
      have P := Lib.hid PP.out
      clear PP
      go_simp
      apply Rel.every_one 13 (by kernel_rfl) (by rfl) (by rfl)
      intro W6 h6
      have P6 := Lib.hid (P.out.keep h6)
      go_simp
      apply Rel.gives_enter
      go_at_call 20
      refine (inums_any B _ _ [f, ad, pm] (by intro n hn; have := HF.out; simp at hn; omega) (by simp) (by have := LX.out; simp only [List.length_append, List.length_cons, List.length_nil]; omega) W6 (by have := P6.out.grown.size; have := hB0.out; omega) P6.out.own _ (numsIn_box (N5.out.keep h6) NEV.out rfl)).mono ?_
      rintro e w7 ⟨v7, rfl, o7, g7, b7⟩
      refine ⟨_, rfl, P6.out.but g7, ?_⟩
      have PP := Lib.hid (P6.out.next o7 g7 b7)
      clear o7 g7 b7 h6 P6
      clear P
      have P := Lib.hid PP.out
      clear PP
      go_simp
      apply Rel.every_one 14 (by kernel_rfl) (by rfl) (by rfl)
      intro W8 h8
      go_simp
      apply Rel.gives_value
      refine ⟨KeepBut.refl _ _, ?_⟩
      have PP := Lib.hid (P.out.keep h8)
      clear h8
      clear P
      have P := Lib.hid PP.out
      clear PP
      go_simp
      refine Rel.every_end (by kernel_rfl) ?_
      intro W9 h9
      have PP := Lib.hid (P.out.keep h9)
      clear h9
      clear P
      have P := Lib.hid PP.out
      clear PP
      go_wp2_with fail
      go_ret
      refine ⟨_, rfl, ?_, grow_trans (keep_grow K0.out _) (.inl rfl) P.out.grown, OwnTo.trans K0.out.size (.inl rfl) P.out.to⟩
      have o := P.out.own
      rw [HYS.out] at o
      simpa [List.append_assoc] using o
  · intro W2 h2
    go_simp
    apply Rel.gives_value
    refine ⟨((Keep.refl _).alloc _).but _, ?_⟩
    have PP := Lib.hid (P.out.keep (h2.alloc (.cells #[.int .u32 (f : Int), .int .u32 (ad : Int), .int .u32 (pm : Int)] 22)))
    have BN := Lib.hid (Box.new W2 #[.int .u32 (f : Int), .int .u32 (ad : Int), .int .u32 (pm : Int)] 22)
    obtain ⟨gn, hgb⟩ : ∃ gn, gn = W2.heap.size := ⟨_, rfl⟩
    have GSgn : W0.heap.size ≤ gn := by rw [hgb]; exact (P.out.keep h2).grown.size
    have NEgn := Lib.hid (show ∀ z, _ = some z → z < gn from fun z hz => by rw [hgb]; exact ((P.out.keep h2).own.lt z hz).2)
    rw [← hgb] at BN ⊢
    obtain ⟨WB, hWB⟩ : ∃ WB, WB = W2.alloc (.cells #[.int .u32 (f : Int), .int .u32 (ad : Int), .int .u32 (pm : Int)] 22) := ⟨_, rfl⟩
    rw [← hWB] at PP BN ⊢
    clear hWB hgb h2
    clear P
    have P := Lib.hid PP.out
    clear PP
    go_simp
    apply Rel.every_one 2 (by kernel_rfl) (by rfl) (by rfl)
    intro W2 h2
    go_simp
    apply Rel.gives_value
    refine ⟨((Keep.refl _).alloc _).but _, ?_⟩
    have BN := Lib.hid (BN.out.keep (h2.alloc (.cells #[.int .u8 (0 : Int)] 5)))
    have PP := Lib.hid (P.out.keep (h2.alloc (.cells #[.int .u8 (0 : Int)] 5)))
    have BB := Lib.hid (Box.new W2 #[.int .u8 (0 : Int)] 5)
    obtain ⟨gb, hgb⟩ : ∃ gb, gb = W2.heap.size := ⟨_, rfl⟩
    have GSgb : W0.heap.size ≤ gb := by rw [hgb]; exact (P.out.keep h2).grown.size
    have NEgb := Lib.hid (show ∀ z, _ = some z → z < gb from fun z hz => by rw [hgb]; exact ((P.out.keep h2).own.lt z hz).2)
    rw [← hgb] at BB ⊢
    obtain ⟨WB, hWB⟩ : ∃ WB, WB = W2.alloc (.cells #[.int .u8 (0 : Int)] 5) := ⟨_, rfl⟩
    rw [← hWB] at PP BB BN ⊢
    clear hWB hgb h2
    clear P
    have P := Lib.hid PP.out
    clear PP
    go_simp
    apply Rel.every_one 3 (by kernel_rfl) (by rfl) (by rfl)
    intro W4 h4
    have P4 := Lib.hid (P.out.keep h4)
    have B4 := BB.out.keep h4
    refine gives_append_src W4 (.tmp 19) (.tmp 21) 26 26 rfl B 5 i0 _ 1 1 Tryd.underlying26 hi0 hz0 hz1 hz2 rfl _ _ _ rfl P4.out.own (.slice (some ⟨gb, 0, none⟩) 1 1) 1 [.int .u8 (0 : Int)] rfl (Src.ofSlice W4 Tryd.underlying26 _ 1 1 _ rfl (fun j u hj => by match j, hj with | 0, hj => simp at hj; subst hj; simp [Addr.add, B4.cells] | j + 1, hj => simp at hj) (fun u hu => by simp at hu; subst hu; rfl)) (by have := LX.out; unfold maxLen; omega) (by have := LX.out; omega) (by have := P4.out.grown.size; have := hB0.out; omega) ?_
    intro v5 V5 o5 g5 b5
    refine ⟨P4.out.but g5, ?_⟩
    have PP := Lib.hid (P4.out.next (append_own (y := 0) o5 rfl rfl) g5 b5)
    have N5 := Lib.hid (grown_box g5 (BN.out.keep h4) (fun e => by have := NEgn.out _ e.symm; omega))
    have NEV := Lib.hid (own_ne b5 NEgn.out (BN.out.keep h4).lt)
    clear o5 g5 b5 h4 B4 P4
    clear P
    have P := Lib.hid PP.out
    clear PP
    go_simp
    apply Rel.every_one 13 (by kernel_rfl) (by rfl) (by rfl)
    intro W6 h6
    have P6 := Lib.hid (P.out.keep h6)
    go_simp
    apply Rel.gives_enter
    go_at_call 20
    refine (inums_any B _ _ [f, ad, pm] (by intro n hn; have := HF.out; simp at hn; omega) (by simp) (by have := LX.out; simp only [List.length_append, List.length_cons, List.length_nil]; omega) W6 (by have := P6.out.grown.size; have := hB0.out; omega) P6.out.own _ (numsIn_box (N5.out.keep h6) NEV.out rfl)).mono ?_
    rintro e w7 ⟨v7, rfl, o7, g7, b7⟩
    refine ⟨_, rfl, P6.out.but g7, ?_⟩
    have PP := Lib.hid (P6.out.next o7 g7 b7)
    clear o7 g7 b7 h6 P6
    clear P
    have P := Lib.hid PP.out
    clear PP
    go_simp
    apply Rel.every_one 14 (by kernel_rfl) (by rfl) (by rfl)
    intro W8 h8
    go_simp
    apply Rel.gives_value
    refine ⟨KeepBut.refl _ _, ?_⟩
    have PP := Lib.hid (P.out.keep h8)
    clear h8
    clear P
    have P := Lib.hid PP.out
    clear PP
    go_simp
    refine Rel.every_end (by kernel_rfl) ?_
    intro W9 h9
    have PP := Lib.hid (P.out.keep h9)
    clear h9
    clear P
    have P := Lib.hid PP.out
    clear PP
    go_wp2_with fail
    go_ret
    refine ⟨_, rfl, ?_, grow_trans (keep_grow K0.out _) (.inl rfl) P.out.grown, OwnTo.trans K0.out.size (.inl rfl) P.out.to⟩
    have o := P.out.own
    rw [HYS.out] at o
    simpa [List.append_assoc] using o
  · intro W2 h2
    go_simp
    apply Rel.gives_value
    refine ⟨((Keep.refl _).alloc _).but _, ?_⟩
    have PP := Lib.hid (P.out.keep (h2.alloc (.cells #[.int .u8 (1 : Int)] 5)))
    have BB := Lib.hid (Box.new W2 #[.int .u8 (1 : Int)] 5)
    obtain ⟨gb, hgb⟩ : ∃ gb, gb = W2.heap.size := ⟨_, rfl⟩
    have GSgb : W0.heap.size ≤ gb := by rw [hgb]; exact (P.out.keep h2).grown.size
    have NEgb := Lib.hid (show ∀ z, _ = some z → z < gb from fun z hz => by rw [hgb]; exact ((P.out.keep h2).own.lt z hz).2)
    rw [← hgb] at BB ⊢
    obtain ⟨WB, hWB⟩ : ∃ WB, WB = W2.alloc (.cells #[.int .u8 (1 : Int)] 5) := ⟨_, rfl⟩
    rw [← hWB] at PP BB ⊢
    clear hWB hgb h2
    clear P
    have P := Lib.hid PP.out
    clear PP
    go_simp
    refine Rel.every_two 3 12 (by kernel_rfl) (by rfl) (by rfl) (by rfl) (by rfl) ?_ ?_
    · intro W4 h4
      have P4 := Lib.hid (P.out.keep h4)
      have B4 := BB.out.keep h4
      refine gives_append_src W4 (.tmp 19) (.tmp 21) 26 26 rfl B 5 i0 _ 1 1 Tryd.underlying26 hi0 hz0 hz1 hz2 rfl _ _ _ rfl P4.out.own (.slice (some ⟨gb, 0, none⟩) 1 1) 1 [.int .u8 (1 : Int)] rfl (Src.ofSlice W4 Tryd.underlying26 _ 1 1 _ rfl (fun j u hj => by match j, hj with | 0, hj => simp at hj; subst hj; simp [Addr.add, B4.cells] | j + 1, hj => simp at hj) (fun u hu => by simp at hu; subst hu; rfl)) (by have := LX.out; unfold maxLen; omega) (by have := LX.out; omega) (by have := P4.out.grown.size; have := hB0.out; omega) ?_
      intro v5 V5 o5 g5 b5
      refine ⟨P4.out.but g5, ?_⟩
      have PP := Lib.hid (P4.out.next (append_own (y := 1) o5 rfl rfl) g5 b5)
      skip
      skip
      clear o5 g5 b5 h4 B4 P4
      clear P
      have P := Lib.hid PP.out
      clear PP
      go_simp
      apply Rel.every_one 12 (by kernel_rfl) (by rfl) (by rfl)
      intro W2 h2
      go_simp
      apply Rel.gives_value
      refine ⟨((Keep.refl _).alloc _).but _, ?_⟩
      have PP := Lib.hid (P.out.keep (h2.alloc (.cells #[.int .u32 (f : Int), .int .u32 (ad : Int), .int .u32 (pm : Int)] 22)))
      have BN := Lib.hid (Box.new W2 #[.int .u32 (f : Int), .int .u32 (ad : Int), .int .u32 (pm : Int)] 22)
      obtain ⟨gn, hgb⟩ : ∃ gn, gn = W2.heap.size := ⟨_, rfl⟩
      have GSgn : W0.heap.size ≤ gn := by rw [hgb]; exact (P.out.keep h2).grown.size
      have NEgn := Lib.hid (show ∀ z, _ = some z → z < gn from fun z hz => by rw [hgb]; exact ((P.out.keep h2).own.lt z hz).2)
      rw [← hgb] at BN ⊢
      obtain ⟨WB, hWB⟩ : ∃ WB, WB = W2.alloc (.cells #[.int .u32 (f : Int), .int .u32 (ad : Int), .int .u32 (pm : Int)] 22) := ⟨_, rfl⟩
      rw [← hWB] at PP BN ⊢
      clear hWB hgb h2
      clear P
      have P := Lib.hid PP.out
      clear PP
      go_simp
      have NEV := Lib.hid (show Value.ownBlock _ ≠ some gn from fun e => by have := NEgn.out _ e; omega)
      apply Rel.every_one 13 (by kernel_rfl) (by rfl) (by rfl)
      intro W6 h6
      have P6 := Lib.hid (P.out.keep h6)
      go_simp
      apply Rel.gives_enter
      go_at_call 20
      refine (inums_any B _ _ [f, ad, pm] (by intro n hn; have := HF.out; simp at hn; omega) (by simp) (by have := LX.out; simp only [List.length_append, List.length_cons, List.length_nil]; omega) W6 (by have := P6.out.grown.size; have := hB0.out; omega) P6.out.own _ (numsIn_box (BN.out.keep h6) NEV.out rfl)).mono ?_
      rintro e w7 ⟨v7, rfl, o7, g7, b7⟩
      refine ⟨_, rfl, P6.out.but g7, ?_⟩
      have PP := Lib.hid (P6.out.next o7 g7 b7)
      clear o7 g7 b7 h6 P6
      clear P
      have P := Lib.hid PP.out
      clear PP
      go_simp
      apply Rel.every_one 14 (by kernel_rfl) (by rfl) (by rfl)
      intro W8 h8
      go_simp
      apply Rel.gives_value
      refine ⟨KeepBut.refl _ _, ?_⟩
      have PP := Lib.hid (P.out.keep h8)
      clear h8
      clear P
      have P := Lib.hid PP.out
      clear PP
      go_simp
      refine Rel.every_end (by kernel_rfl) ?_
      intro W9 h9
      have PP := Lib.hid (P.out.keep h9)
      clear h9
      clear P
      have P := Lib.hid PP.out
      clear PP
      go_wp2_with fail
      go_ret
      refine ⟨_, rfl, ?_, grow_trans (keep_grow K0.out _) (.inl rfl) P.out.grown, OwnTo.trans K0.out.size (.inl rfl) P.out.to⟩
      have o := P.out.own
      rw [HYS.out] at o
      simpa [List.append_assoc] using o
    · intro W2 h2
      go_simp
      apply Rel.gives_value
      refine ⟨((Keep.refl _).alloc _).but _, ?_⟩
      have BB := Lib.hid (BB.out.keep (h2.alloc (.cells #[.int .u32 (f : Int), .int .u32 (ad : Int), .int .u32 (pm : Int)] 22)))
      have PP := Lib.hid (P.out.keep (h2.alloc (.cells #[.int .u32 (f : Int), .int .u32 (ad : Int), .int .u32 (pm : Int)] 22)))
      have BN := Lib.hid (Box.new W2 #[.int .u32 (f : Int), .int .u32 (ad : Int), .int .u32 (pm : Int)] 22)
      obtain ⟨gn, hgb⟩ : ∃ gn, gn = W2.heap.size := ⟨_, rfl⟩
      have GSgn : W0.heap.size ≤ gn := by rw [hgb]; exact (P.out.keep h2).grown.size
      have NEgn := Lib.hid (show ∀ z, _ = some z → z < gn from fun z hz => by rw [hgb]; exact ((P.out.keep h2).own.lt z hz).2)
      rw [← hgb] at BN ⊢
      obtain ⟨WB, hWB⟩ : ∃ WB, WB = W2.alloc (.cells #[.int .u32 (f : Int), .int .u32 (ad : Int), .int .u32 (pm : Int)] 22) := ⟨_, rfl⟩
      rw [← hWB] at PP BN BB ⊢
      clear hWB hgb h2
      clear P
      have P := Lib.hid PP.out
      clear PP
      go_simp
      apply Rel.every_one 3 (by kernel_rfl) (by rfl) (by rfl)
      intro W4 h4
      have P4 := Lib.hid (P.out.keep h4)
      have B4 := BB.out.keep h4
      refine gives_append_src W4 (.tmp 19) (.tmp 21) 26 26 rfl B 5 i0 _ 1 1 Tryd.underlying26 hi0 hz0 hz1 hz2 rfl _ _ _ rfl P4.out.own (.slice (some ⟨gb, 0, none⟩) 1 1) 1 [.int .u8 (1 : Int)] rfl (Src.ofSlice W4 Tryd.underlying26 _ 1 1 _ rfl (fun j u hj => by match j, hj with | 0, hj => simp at hj; subst hj; simp [Addr.add, B4.cells] | j + 1, hj => simp at hj) (fun u hu => by simp at hu; subst hu; rfl)) (by have := LX.out; unfold maxLen; omega) (by have := LX.out; omega) (by have := P4.out.grown.size; have := hB0.out; omega) ?_
      intro v5 V5 o5 g5 b5
      refine ⟨P4.out.but g5, ?_⟩
      have PP := Lib.hid (P4.out.next (append_own (y := 1) o5 rfl rfl) g5 b5)
      have N5 := Lib.hid (grown_box g5 (BN.out.keep h4) (fun e => by have := NEgn.out _ e.symm; omega))
      have NEV := Lib.hid (own_ne b5 NEgn.out (BN.out.keep h4).lt)
      clear o5 g5 b5 h4 B4 P4
      clear P
      have P := Lib.hid PP.out
      clear PP
      go_simp
      apply Rel.every_one 13 (by kernel_rfl) (by rfl) (by rfl)
      intro W6 h6
      have P6 := Lib.hid (P.out.keep h6)
      go_simp
      apply Rel.gives_enter
      go_at_call 20
      refine (inums_any B _ _ [f, ad, pm] (by intro n hn; have := HF.out; simp at hn; omega) (by simp) (by have := LX.out; simp only [List.length_append, List.length_cons, List.length_nil]; omega) W6 (by have := P6.out.grown.size; have := hB0.out; omega) P6.out.own _ (numsIn_box (N5.out.keep h6) NEV.out rfl)).mono ?_
      rintro e w7 ⟨v7, rfl, o7, g7, b7⟩
      refine ⟨_, rfl, P6.out.but g7, ?_⟩
      have PP := Lib.hid (P6.out.next o7 g7 b7)
      clear o7 g7 b7 h6 P6
      clear P
      have P := Lib.hid PP.out
      clear PP
      go_simp
      apply Rel.every_one 14 (by kernel_rfl) (by rfl) (by rfl)
      intro W8 h8
      go_simp
      apply Rel.gives_value
      refine ⟨KeepBut.refl _ _, ?_⟩
      have PP := Lib.hid (P.out.keep h8)
      clear h8
      clear P
      have P := Lib.hid PP.out
      clear PP
      go_simp
      refine Rel.every_end (by kernel_rfl) ?_
      intro W9 h9
      have PP := Lib.hid (P.out.keep h9)
      clear h9
      clear P
      have P := Lib.hid PP.out
      clear PP
      go_wp2_with fail
      go_ret
      refine ⟨_, rfl, ?_, grow_trans (keep_grow K0.out _) (.inl rfl) P.out.grown, OwnTo.trans K0.out.size (.inl rfl) P.out.to⟩
      have o := P.out.own
      rw [HYS.out] at o
      simpa [List.append_assoc] using o
  · intro W2 h2
    go_simp
    apply Rel.gives_value
    refine ⟨((Keep.refl _).alloc _).but _, ?_⟩
    have PP := Lib.hid (P.out.keep (h2.alloc (.cells #[.int .u32 (f : Int), .int .u32 (ad : Int), .int .u32 (pm : Int)] 22)))
    have BN := Lib.hid (Box.new W2 #[.int .u32 (f : Int), .int .u32 (ad : Int), .int .u32 (pm : Int)] 22)
    obtain ⟨gn, hgb⟩ : ∃ gn, gn = W2.heap.size := ⟨_, rfl⟩
    have GSgn : W0.heap.size ≤ gn := by rw [hgb]; exact (P.out.keep h2).grown.size
    have NEgn := Lib.hid (show ∀ z, _ = some z → z < gn from fun z hz => by rw [hgb]; exact ((P.out.keep h2).own.lt z hz).2)
    rw [← hgb] at BN ⊢
    obtain ⟨WB, hWB⟩ : ∃ WB, WB = W2.alloc (.cells #[.int .u32 (f : Int), .int .u32 (ad : Int), .int .u32 (pm : Int)] 22) := ⟨_, rfl⟩
    rw [← hWB] at PP BN ⊢
    clear hWB hgb h2
    clear P
    have P := Lib.hid PP.out
    clear PP
    go_simp
    apply Rel.every_one 2 (by kernel_rfl) (by rfl) (by rfl)
    intro W2 h2
    go_simp
    apply Rel.gives_value
    refine ⟨((Keep.refl _).alloc _).but _, ?_⟩
    have BN := Lib.hid (BN.out.keep (h2.alloc (.cells #[.int .u8 (1 : Int)] 5)))
    have PP := Lib.hid (P.out.keep (h2.alloc (.cells #[.int .u8 (1 : Int)] 5)))
    have BB := Lib.hid (Box.new W2 #[.int .u8 (1 : Int)] 5)
    obtain ⟨gb, hgb⟩ : ∃ gb, gb = W2.heap.size := ⟨_, rfl⟩
    have GSgb : W0.heap.size ≤ gb := by rw [hgb]; exact (P.out.keep h2).grown.size
    have NEgb := Lib.hid (show ∀ z, _ = some z → z < gb from fun z hz => by rw [hgb]; exact ((P.out.keep h2).own.lt z hz).2)
    rw [← hgb] at BB ⊢
    obtain ⟨WB, hWB⟩ : ∃ WB, WB = W2.alloc (.cells #[.int .u8 (1 : Int)] 5) := ⟨_, rfl⟩
    rw [← hWB] at PP BB BN ⊢
    clear hWB hgb h2
    clear P
    have P := Lib.hid PP.out
    clear PP
    go_simp
    apply Rel.every_one 3 (by kernel_rfl) (by rfl) (by rfl)
    intro W4 h4
    have P4 := Lib.hid (P.out.keep h4)
    have B4 := BB.out.keep h4
    refine gives_append_src W4 (.tmp 19) (.tmp 21) 26 26 rfl B 5 i0 _ 1 1 Tryd.underlying26 hi0 hz0 hz1 hz2 rfl _ _ _ rfl P4.out.own (.slice (some ⟨gb, 0, none⟩) 1 1) 1 [.int .u8 (1 : Int)] rfl (Src.ofSlice W4 Tryd.underlying26 _ 1 1 _ rfl (fun j u hj => by match j, hj with | 0, hj => simp at hj; subst hj; simp [Addr.add, B4.cells] | j + 1, hj => simp at hj) (fun u hu => by simp at hu; subst hu; rfl)) (by have := LX.out; unfold maxLen; omega) (by have := LX.out; omega) (by have := P4.out.grown.size; have := hB0.out; omega) ?_
    intro v5 V5 o5 g5 b5
    refine ⟨P4.out.but g5, ?_⟩
    have PP := Lib.hid (P4.out.next (append_own (y := 1) o5 rfl rfl) g5 b5)
    have N5 := Lib.hid (grown_box g5 (BN.out.keep h4) (fun e => by have := NEgn.out _ e.symm; omega))
    have NEV := Lib.hid (own_ne b5 NEgn.out (BN.out.keep h4).lt)
    clear o5 g5 b5 h4 B4 P4
    clear P
    have P := Lib.hid PP.out
    clear PP
    go_simp
    apply Rel.every_one 13 (by kernel_rfl) (by rfl) (by rfl)
    intro W6 h6
    have P6 := Lib.hid (P.out.keep h6)
    go_simp
    apply Rel.gives_enter
    go_at_call 20
    refine (inums_any B _ _ [f, ad, pm] (by intro n hn; have := HF.out; simp at hn; omega) (by simp) (by have := LX.out; simp only [List.length_append, List.length_cons, List.length_nil]; omega) W6 (by have := P6.out.grown.size; have := hB0.out; omega) P6.out.own _ (numsIn_box (N5.out.keep h6) NEV.out rfl)).mono ?_
    rintro e w7 ⟨v7, rfl, o7, g7, b7⟩
    refine ⟨_, rfl, P6.out.but g7, ?_⟩
    have PP := Lib.hid (P6.out.next o7 g7 b7)
    clear o7 g7 b7 h6 P6
    clear P
    have P := Lib.hid PP.out
    clear PP
    go_simp
    apply Rel.every_one 14 (by kernel_rfl) (by rfl) (by rfl)
    intro W8 h8
    go_simp
    apply Rel.gives_value
    refine ⟨KeepBut.refl _ _, ?_⟩
    have PP := Lib.hid (P.out.keep h8)
    clear h8
    clear P
    have P := Lib.hid PP.out
    clear PP
    go_simp
    refine Rel.every_end (by kernel_rfl) ?_
    intro W9 h9
    have PP := Lib.hid (P.out.keep h9)
    clear h9
    clear P
    have P := Lib.hid PP.out
    clear PP
    go_wp2_with fail
    go_ret
    refine ⟨_, rfl, ?_, grow_trans (keep_grow K0.out _) (.inl rfl) P.out.grown, OwnTo.trans K0.out.size (.inl rfl) P.out.to⟩
    have o := P.out.own
    rw [HYS.out] at o
    simpa [List.append_assoc] using o
theorem iinitB_any (B : Nat) (v : Value) (xs : List Nat) (x : InitV) (hx : InitOk x) (few : xs.length ≤ 400000) (w : World) (hB : B ≤ w.heap.size) (h : Own8 w B v xs) :
    Calls Tryd.prog 23 #[v, .agg #[.int .i64 x.comp, .int .u32 x.at_, .int .i64 x.kind, .bool x.data, .int .i64 x.src, .int .u32 x.addr, .int .u16 x.perm]] w (PutR w B v (xs ++ initB x)) := by
  obtain ⟨c, a, k, d, f, ad, pm⟩ := x
  obtain ⟨⟨c0, c1⟩, ⟨a0, a1⟩, ⟨k0, k1⟩, ⟨f0, f1⟩, ⟨d0, d1⟩, p0, p1⟩ := hx
  dsimp only at c0 c1 a0 a1 k0 k1 f0 f1 d0 d1 p0 p1 ⊢
  obtain ⟨c, rfl⟩ : ∃ n : Nat, c = (n : Int) := ⟨c.toNat, by omega⟩
  obtain ⟨a, rfl⟩ : ∃ n : Nat, a = (n : Int) := ⟨a.toNat, by omega⟩
  obtain ⟨k, rfl⟩ : ∃ n : Nat, k = (n : Int) := ⟨k.toNat, by omega⟩
  obtain ⟨f, rfl⟩ : ∃ n : Nat, f = (n : Int) := ⟨f.toNat, by omega⟩
  obtain ⟨ad, rfl⟩ : ∃ n : Nat, ad = (n : Int) := ⟨ad.toNat, by omega⟩
  obtain ⟨pm, rfl⟩ : ∃ n : Nat, pm = (n : Int) := ⟨pm.toNat, by omega⟩
  exact iinitB_aux B v xs c a k d f ad pm (by omega) (by omega) (by omega) (by omega) (by omega) (by omega) few w hB h
end Go.Proofs.YtmcbeclkocjlkaaDoor

/- The program's putPart. -/
namespace Go.Proofs.YtmcbeclkocjlkaaDoor
set_option linter.unusedVariables false
set_option linter.unusedSimpArgs false
open Go Go.RowKit
set_option maxHeartbeats 4000000 in
set_option maxRecDepth 100000 in
theorem ipartB_aux (Wb : World) (B : Nat) (v : Value) (xs : List Nat) (nm : ByteArray) (c d t : SpanV) (ns : List Nat) (ep : Option Addr) (ec : Nat) (hs : nm.size ≤ 255) (hc : SpanOk c) (hd : SpanOk d) (ht : SpanOk t) (hns : ∀ n ∈ ns, n < 4294967296) (nf : ns.length ≤ 64) (few : xs.length ≤ 400000) (w : World) (hB : B ≤ w.heap.size) (h : Own8 w B v xs)
    (kb : Keep Wb w) (hb : Wb.heap.size ≤ B) (he : SlAt Wb (.slice ep ns.length ec) (ns.map (fun (n : Nat) => (n : Int))).length ((ns.map (fun (n : Nat) => (n : Int))).map u32V)) :
    Calls Tryd.prog 21 #[v, .agg #[.string nm, .int .u32 c.at_, .int .u32 c.size, .int .u32 d.at_, .int .u32 d.size, .int .u32 t.at_, .int .u32 t.size, .slice ep ns.length ec]] w (PutR w B v (xs ++ (strB nm ++ (spanB c ++ (spanB d ++ (spanB t ++ (num4 ns.length ++ ns.flatMap num4))))))) := by
  obtain ⟨i0, hi0, hz0, hz1, hz2⟩ := oinfo_parts infoU8
  obtain ⟨W0, hW0⟩ : ∃ W0, W0 = w.alloc (.cells #[.string nm, .int .u32 c.at_, .int .u32 c.size, .int .u32 d.at_, .int .u32 d.size, .int .u32 t.at_, .int .u32 t.size, .slice ep ns.length ec] 39) := ⟨_, rfl⟩
  have K0 : Hid (Keep w W0) := Lib.hid (by rw [hW0]; exact (Keep.refl _).alloc _)
  have BS : Hid (Box W0 w.heap.size #[.string nm, .int .u32 c.at_, .int .u32 c.size, .int .u32 d.at_, .int .u32 d.size, .int .u32 t.at_, .int .u32 t.size, .slice ep ns.length ec]) := Lib.hid (by rw [hW0]; exact Box.new _ _ _)
  have NB : ∀ g, v.ownBlock = some g → g < w.heap.size := fun g hg => (h.lt g hg).2
  have NS := Lib.hid (show v.ownBlock ≠ some w.heap.size from fun e => by have := NB _ e; omega)
  have P : Hid (PutAt W0 B v.ownBlock v xs W0) := Lib.hid ⟨owns_keep h K0.out, grow_refl _ _, .inl rfl⟩
  have VL := Lib.hid (show ∀ g, v.ownBlock = some g → B ≤ g from fun g hg => (h.lt g hg).1)
  have NI : Hid (∀ (W' : World) (v' : Value) (ys : List Nat), PutAt W0 B v.ownBlock v' ys W' → NumsIn W' (.slice ep ns.length ec) ns v') := Lib.hid (fun W' v' ys p => (numsIn_at he rfl (fun g hg => Nat.le_trans hb (p.own.lt g hg).1)).keep (grow_keep0 (kb.trans K0.out) p.grown (fun g hg => Nat.le_trans hb (VL.out g hg))))
  have hB0 : Hid (B ≤ W0.heap.size) := Lib.hid (Nat.le_trans hB K0.out.size)
  have LOW : Hid (w.heap.size < W0.heap.size) := Lib.hid (by rw [hW0]; simp)
  have wr : IntKind.u8.wrap (nm.size : Int) = (nm.size : Int) := by rw [IntKind.wrap_u8]; omega
  have wl : IntKind.u32.wrap (ns.length : Int) = (ns.length : Int) := IntWalk.u32_in _ (by omega)
  have Hc := Lib.hid hc
  have Hd := Lib.hid hd
  have Ht := Lib.hid ht
  have HNS := Lib.hid hns
  have NF := Lib.hid nf
  clear h hc hd ht hns nf kb he NB
  go_enter Tryd.func21, Tryd.ntmps21
  go_wp2_with fail
  rw [← hW0]
  clear hW0
  refine Rel.regionP (KeepBut (fun z => v.ownBlock = some z ∨ W0.heap.size ≤ z)) (butWay _) [] [0, 1, 2, 3, 4, 7, 8] 4 (by kernel_rfl) (by kernel_rfl) (Keep.refl _) ?_
  repeat (apply Rel.pre_step (by rfl) (by rfl) (by rfl)
          · intro W' hW'
            have cS := (BS.out.but hW' (by rintro (e | e); exact NS.out e; have := BS.out.lt; have := LOW.out; omega)).cells
            go_simp
            exact ⟨rfl, Keep.refl _⟩
          go_simp)
  apply Rel.pre_end
  apply Rel.every_one 5 (by kernel_rfl) (by rfl) (by rfl)
  intro W2 h2
  go_simp
  apply Rel.gives_value
  refine ⟨((Keep.refl _).alloc _).but _, ?_⟩
  have PP := Lib.hid (P.out.keep (h2.alloc (.cells #[.int .u8 (nm.size : Int)] 5)))
  have BB := Lib.hid (Box.new W2 #[.int .u8 (nm.size : Int)] 5)
  obtain ⟨gb, hgb⟩ : ∃ gb, gb = W2.heap.size := ⟨_, rfl⟩
  have GSgb : W0.heap.size ≤ gb := by rw [hgb]; exact (P.out.keep h2).grown.size
  have NEgb := Lib.hid (show ∀ z, _ = some z → z < gb from fun z hz => by rw [hgb]; exact ((P.out.keep h2).own.lt z hz).2)
  rw [← hgb] at BB ⊢
  obtain ⟨WB, hWB⟩ : ∃ WB, WB = W2.alloc (.cells #[.int .u8 (nm.size : Int)] 5) := ⟨_, rfl⟩
  rw [← hWB] at PP BB ⊢
  clear hWB hgb h2
  clear P
  have P := Lib.hid PP.out
  clear PP
  go_simp
  apply Rel.every_one 6 (by kernel_rfl) (by rfl) (by rfl)
  intro W4 h4
  have P4 := Lib.hid (P.out.keep h4)
  have B4 := BB.out.keep h4
  refine gives_append_src W4 (.tmp 7) (.tmp 12) 26 26 rfl B 5 i0 _ 1 1 Tryd.underlying26 hi0 hz0 hz1 hz2 rfl _ _ _ rfl P4.out.own (.slice (some ⟨gb, 0, none⟩) 1 1) 1 [.int .u8 (nm.size : Int)] rfl (Src.ofSlice W4 Tryd.underlying26 _ 1 1 _ rfl (fun j u hj => by match j, hj with | 0, hj => simp at hj; subst hj; simp [Addr.add, B4.cells] | j + 1, hj => simp at hj) (fun u hu => by simp at hu; subst hu; rfl)) (by unfold maxLen; omega) (by omega) (by have := P4.out.grown.size; have := hB0.out; omega) ?_
  intro v5 V5 o5 g5 b5
  refine ⟨P4.out.but g5, ?_⟩
  have PP := Lib.hid (P4.out.next (append_own (y := nm.size) o5 rfl rfl) g5 b5)
  clear o5 g5 b5 h4 B4 P4
  clear P
  have P := Lib.hid PP.out
  clear PP
  go_simp
  apply Rel.every_one 9 (by kernel_rfl) (by rfl) (by rfl)
  intro W4 h4
  have P4 := Lib.hid (P.out.keep h4)
  refine gives_append_src W4 (.tmp 13) (.tmp 15) 26 9 rfl B 5 i0 _ 1 1 Tryd.underlying26 hi0 hz0 hz1 hz2 rfl _ _ _ rfl P4.out.own (.string nm) nm.size (byteCells nm) rfl (Src.ofString W4 Tryd.underlying9 nm) (by unfold maxLen; simp; omega) (by simp; omega) (by have := P4.out.grown.size; have := hB0.out; omega) ?_
  intro v5 V5 o5 g5 b5
  refine ⟨P4.out.but g5, ?_⟩
  have o6 : Own8 V5 B v5 (xs ++ strB nm) := by
    rw [str_cells] at o5
    unfold Own8 strB
    have e : (xs ++ nm.size :: nm.data.toList.map UInt8.toNat).length = (xs ++ [nm.size]).length + nm.size := by simp; omega
    rw [e]
    simpa [byteV] using o5
  have PP := Lib.hid (P4.out.next o6 g5 b5)
  clear o5 o6 g5 b5 h4 P4
  clear P
  have P := Lib.hid PP.out
  clear PP
  go_simp
  apply Rel.every_one 10 (by kernel_rfl) (by rfl) (by rfl)
  intro W8 h8
  go_simp
  apply Rel.gives_value
  refine ⟨KeepBut.refl _ _, ?_⟩
  have PP := Lib.hid (P.out.keep h8)
  clear h8
  clear P
  have P := Lib.hid PP.out
  clear PP
  go_simp
  refine Rel.every_end (by kernel_rfl) ?_
  intro W9 h9
  have PP := Lib.hid (P.out.keep h9)
  clear h9
  clear P
  have P := Lib.hid PP.out
  clear PP
  have LY : Hid ((xs ++ strB nm).length ≤ 400300) := Lib.hid (by simp [strB]; omega)
  obtain ⟨ys, hys⟩ : ∃ ys, ys = xs ++ strB nm := ⟨_, rfl⟩
  rw [← hys] at P LY
  have HYS := Lib.hid hys
  clear hys
  obtain ⟨v2, hv2⟩ : ∃ v2, v2 = v5 := ⟨_, rfl⟩
  rw [← hv2] at P ⊢
  clear hv2
  obtain ⟨Wl, hWl⟩ : ∃ Wl, Wl = W9.alloc (.cells #[.int .u32 c.at_, .int .u32 c.size, .int .u32 d.at_, .int .u32 d.size, .int .u32 t.at_, .int .u32 t.size] 36) := ⟨_, rfl⟩
  have KL : Hid (Keep W9 Wl) := Lib.hid (by rw [hWl]; exact (Keep.refl _).alloc _)
  have BL0 : Hid (Box Wl W9.heap.size #[.int .u32 c.at_, .int .u32 c.size, .int .u32 d.at_, .int .u32 d.size, .int .u32 t.at_, .int .u32 t.size]) := Lib.hid (by rw [hWl]; exact Box.new _ _ _)
  have BI := Lib.hid (P.out.box BS.out NS.out)
  have PW := Lib.hid (P.out.keep KL.out)
  have NEL := Lib.hid (show v2.ownBlock ≠ some W9.heap.size from fun e => by have := (P.out.own.lt _ e).2; omega)
  have NS2 := Lib.hid (show v2.ownBlock ≠ some w.heap.size from fun e => by
    rcases P.out.to with q | ⟨y, q, hy⟩
    · rw [q] at e; exact NS.out e
    · rw [q] at e; simp only [Option.some.injEq] at e; have := LOW.out; omega)
  have hBl : Hid (B ≤ Wl.heap.size) := Lib.hid (Nat.le_trans hB0.out (Nat.le_trans P.out.grown.size KL.out.size))
  have Q : Hid (PutAt Wl B v2.ownBlock v2 ys Wl) := Lib.hid ⟨PW.out.own, grow_refl _ _, .inl rfl⟩
  have BL := Lib.hid BL0.out
  have BJ0 := Lib.hid (BI.out.keep KL.out)
  have LOWl := Lib.hid (show w.heap.size < Wl.heap.size from Nat.lt_of_lt_of_le LOW.out (Nat.le_trans P.out.grown.size KL.out.size))
  have cI := BI.out.cells
  clear P
  go_wp2_with fail
  rw [← hWl]
  clear hWl cI
  refine wp_loop_rounds 4 ?_
  rw [rounds_succ]
  have cl := BL.out.cells
  go_wp2_with fail
  refine (ispanB_any B _ _ c Hc.out (by have := LY.out; (try simp only [List.length_append, spanB_length]); omega) _ (by have := Q.out.grown.size; have := hBl.out; simp; omega) (owns_keep Q.out.own ((Keep.refl _).alloc _))).mono ?_
  rintro e w_1 hp
  obtain ⟨v_1, rfl, o2, g2, t2⟩ := PutR.from ((Keep.refl _).alloc _) hp
  have QQ := Lib.hid (Q.out.next o2 g2 t2)
  clear hp o2 g2 t2 cl Q BL
  have Q := Lib.hid QQ.out
  clear QQ
  have BL := Lib.hid (Q.out.box BL0.out NEL.out)
  go_wp2_with fail
  rw [rounds_succ]
  have cl := BL.out.cells
  go_wp2_with fail
  refine (ispanB_any B _ _ d Hd.out (by have := LY.out; (try simp only [List.length_append, spanB_length]); omega) _ (by have := Q.out.grown.size; have := hBl.out; simp; omega) (owns_keep Q.out.own ((Keep.refl _).alloc _))).mono ?_
  rintro e w_2 hp
  obtain ⟨v_2, rfl, o2, g2, t2⟩ := PutR.from ((Keep.refl _).alloc _) hp
  have QQ := Lib.hid (Q.out.next o2 g2 t2)
  clear hp o2 g2 t2 cl Q BL
  have Q := Lib.hid QQ.out
  clear QQ
  have BL := Lib.hid (Q.out.box BL0.out NEL.out)
  go_wp2_with fail
  rw [rounds_succ]
  have cl := BL.out.cells
  go_wp2_with fail
  refine (ispanB_any B _ _ t Ht.out (by have := LY.out; (try simp only [List.length_append, spanB_length]); omega) _ (by have := Q.out.grown.size; have := hBl.out; simp; omega) (owns_keep Q.out.own ((Keep.refl _).alloc _))).mono ?_
  rintro e w_3 hp
  obtain ⟨v_3, rfl, o2, g2, t2⟩ := PutR.from ((Keep.refl _).alloc _) hp
  have QQ := Lib.hid (Q.out.next o2 g2 t2)
  clear hp o2 g2 t2 cl Q BL
  have Q := Lib.hid QQ.out
  clear QQ
  have BL := Lib.hid (Q.out.box BL0.out NEL.out)
  go_wp2_with fail
  rw [rounds_succ]
  go_wp2_with fail
  have BJ := Lib.hid (Q.out.box BJ0.out NS2.out)
  have LOWx := LOW
  clear LOW
  have LOW := Lib.hid LOWl.out
  refine Rel.regionP (KeepBut (fun z => v2.ownBlock = some z ∨ Wl.heap.size ≤ z)) (butWay _) [] [0, 1, 2, 3, 4, 7, 8] 4 (by kernel_rfl) (by kernel_rfl) (Keep.refl _) ?_
  repeat (apply Rel.pre_step (by rfl) (by rfl) (by rfl)
          · intro W' hW'
            have cS := (BJ.out.but hW' (by rintro (e | e); exact NS2.out e; have := BJ.out.lt; have := LOW.out; omega)).cells
            go_simp
            exact ⟨rfl, Keep.refl _⟩
          go_simp)
  apply Rel.pre_end
  have P := Lib.hid Q.out
  apply Rel.every_one 5 (by kernel_rfl) (by rfl) (by rfl)
  intro W2 h2
  go_simp
  apply Rel.gives_value
  refine ⟨((Keep.refl _).alloc _).but _, ?_⟩
  have PP := Lib.hid (P.out.keep (h2.alloc (.cells #[.int .u32 (ns.length : Int)] 22)))
  have BN := Lib.hid (Box.new W2 #[.int .u32 (ns.length : Int)] 22)
  obtain ⟨gn, hgb⟩ : ∃ gn, gn = W2.heap.size := ⟨_, rfl⟩
  have GSgn : Wl.heap.size ≤ gn := by rw [hgb]; exact (P.out.keep h2).grown.size
  have NEgn := Lib.hid (show ∀ z, _ = some z → z < gn from fun z hz => by rw [hgb]; exact ((P.out.keep h2).own.lt z hz).2)
  rw [← hgb] at BN ⊢
  obtain ⟨WB, hWB⟩ : ∃ WB, WB = W2.alloc (.cells #[.int .u32 (ns.length : Int)] 22) := ⟨_, rfl⟩
  rw [← hWB] at PP BN ⊢
  clear hWB hgb h2
  clear P
  have P := Lib.hid PP.out
  clear PP
  go_simp
  apply Rel.every_one 6 (by kernel_rfl) (by rfl) (by rfl)
  intro W6 h6
  have P6 := Lib.hid (P.out.keep h6)
  have NEV := Lib.hid (show Value.ownBlock _ ≠ some gn from fun e => by have := NEgn.out _ e; omega)
  go_simp
  apply Rel.gives_enter
  go_at_call 20
  refine (inums_any B _ _ [ns.length] (by intro n hn; have := NF.out; simp at hn; omega) (by simp) (by have := LY.out; simp only [List.length_append, spanB_length]; omega) W6 (by have := P6.out.grown.size; have := hBl.out; omega) P6.out.own _ (numsIn_box (BN.out.keep h6) NEV.out rfl)).mono ?_
  rintro e w7 ⟨v7, rfl, o7, g7, b7⟩
  refine ⟨_, rfl, P6.out.but g7, ?_⟩
  have PP := Lib.hid (P6.out.next o7 g7 b7)
  clear o7 g7 b7 h6 P6
  clear P
  have P := Lib.hid PP.out
  clear PP
  go_simp
  apply Rel.every_one 9 (by kernel_rfl) (by rfl) (by rfl)
  intro W6 h6
  have P6 := Lib.hid (P.out.keep h6)
  have KE := Lib.hid (NI.out _ _ _ (PW.out.next P6.out.own P6.out.grown P6.out.to))
  go_simp
  apply Rel.gives_enter
  go_at_call 20
  refine (inums_any B _ _ ns HNS.out (by have := NF.out; omega) (by have := LY.out; simp only [List.length_append, spanB_length, List.flatMap_cons, List.flatMap_nil, num4_length, List.length_nil]; omega) W6 (by have := P6.out.grown.size; have := hBl.out; omega) P6.out.own _ KE.out).mono ?_
  rintro e w7 ⟨v7, rfl, o7, g7, b7⟩
  refine ⟨_, rfl, P6.out.but g7, ?_⟩
  have PP := Lib.hid (P6.out.next o7 g7 b7)
  clear o7 g7 b7 h6 P6
  clear P
  have P := Lib.hid PP.out
  clear PP
  go_simp
  apply Rel.every_one 10 (by kernel_rfl) (by rfl) (by rfl)
  intro W8 h8
  go_simp
  apply Rel.gives_value
  refine ⟨KeepBut.refl _ _, ?_⟩
  have PP := Lib.hid (P.out.keep h8)
  clear h8
  clear P
  have P := Lib.hid PP.out
  clear PP
  go_simp
  refine Rel.every_end (by kernel_rfl) ?_
  intro W9 h9
  have PP := Lib.hid (P.out.keep h9)
  clear h9
  clear P
  have P := Lib.hid PP.out
  clear PP
  have Z := Lib.hid (PW.out.next P.out.own P.out.grown P.out.to)
  go_wp2_with fail
  go_ret
  refine ⟨_, rfl, ?_, grow_trans (keep_grow K0.out _) (.inl rfl) Z.out.grown, OwnTo.trans K0.out.size (.inl rfl) Z.out.to⟩
  have o := Z.out.own
  rw [HYS.out] at o
  simpa [List.append_assoc] using o
theorem entsB_flat (ns : List Nat) : (ns.map (fun (n : Nat) => (n : Int))).flatMap entB = ns.flatMap num4 := by
  induction ns with
  | nil => rfl
  | cons a l ih => rw [List.map_cons, List.flatMap_cons, List.flatMap_cons, ih]; rfl
theorem ints_nats (l : List Int) (h : ∀ e ∈ l, N32 e) : ∃ ns : List Nat, l = ns.map (fun (n : Nat) => (n : Int)) ∧ ∀ n ∈ ns, n < 4294967296 := by
  refine ⟨l.map Int.toNat, ?_, fun n hn => ?_⟩
  · rw [List.map_map]
    conv => lhs; rw [← List.map_id l]
    refine List.map_congr_left fun x hx => ?_
    have := (h x hx).1
    simp only [Function.comp_apply, id]; omega
  · obtain ⟨x, hx, rfl⟩ := List.mem_map.1 hn
    have := (h x hx).2; have := (h x hx).1; omega
theorem ipartB_any (Wb : World) (B : Nat) (v vn : Value) (xs : List Nat) (p : PartV) (hp : PartOk p) (hs : p.name.size ≤ 255) (few : xs.length ≤ 400000) (w : World) (hB : B ≤ w.heap.size) (h : Own8 w B v xs) (kb : Keep Wb w) (hb : Wb.heap.size ≤ B) (he : SlAt Wb vn p.entries.length (p.entries.map u32V)) :
    Calls Tryd.prog 21 #[v, .agg #[.string p.name, .int .u32 p.code.at_, .int .u32 p.code.size, .int .u32 p.data.at_, .int .u32 p.data.size, .int .u32 p.stack.at_, .int .u32 p.stack.size, vn]] w (PutR w B v (xs ++ partB p)) := by
  obtain ⟨nm, c, d, t, es⟩ := p
  obtain ⟨hc, hd, ht, nf, hes⟩ := hp
  dsimp only at hc hd ht nf hes hs he ⊢
  obtain ⟨ns, rfl, hns⟩ := ints_nats es hes
  rw [List.length_map] at nf
  have e : partB ⟨nm, c, d, t, ns.map (fun (n : Nat) => (n : Int))⟩ = strB nm ++ (spanB c ++ (spanB d ++ (spanB t ++ (num4 ns.length ++ ns.flatMap num4)))) := by
    unfold partB
    simp only [List.length_map, entsB_flat]
  rw [e]
  have he2 := he
  obtain ⟨ep, ec, rfl, _⟩ := he2
  rw [List.length_map]
  rw [List.length_map] at he
  refine ipartB_aux Wb B v xs nm c d t ns ep ec hs hc hd ht hns nf few w hB h kb hb ?_
  rw [List.length_map]
  exact he
end Go.Proofs.YtmcbeclkocjlkaaDoor

/- The program's putNumbers behind a row that is full: two numbers. -/
namespace Go.Proofs.YtmcbeclkocjlkaaDoor
set_option linter.unusedVariables false
set_option linter.unusedSimpArgs false
open Go Go.RowKit
theorem Own8.base {w : World} {B B' : Nat} {v : Value} {xs : List Nat} (h : Own8 w B v xs) (hb : B' ≤ B) : Own8 w B' v xs := owns_base h hb
set_option maxHeartbeats 4000000 in
set_option maxRecDepth 100000 in
theorem inumsF_any (B g gn : Nat) (xs : List Nat) (n m : Nat) (hn : n < 4294967296) (hm : m < 4294967296) (few : xs.length ≤ 1000) (hx : 0 < xs.length) (w : World) (hB : B ≤ w.heap.size) (hc : ∀ j u, (xs.map byteV)[j]? = some u → w.cell? ⟨g, j, none⟩ = some u) (hN : Box w gn #[.int .u32 (n : Int), .int .u32 (m : Int)]) :
    Calls Tryd.prog 20 #[.slice (some ⟨g, 0, none⟩) xs.length xs.length, .slice (some ⟨gn, 0, none⟩) 2 2] w fun e w' => ∃ v, e = .returned v ∧ Own8 w' B v (xs ++ (num4 n ++ num4 m)) ∧ Keep w w' := by
  obtain ⟨i0, hi0, hz0, hz1, hz2⟩ := oinfo_parts infoU8
  have HC := Lib.hid hc
  have HBN := Lib.hid hN
  have c0 := hN.cells
  clear hc hN
  go_enter Tryd.func20, Tryd.ntmps20
  go_wp2_with fail
  refine wp_loop_rounds 3 ?_
  rw [rounds_succ]
  go_wp2_with fail
  refine wp_loop_rounds 5 ?_
  rw [rounds_succ]
  go_wp2_with (at_builtin; (refine wpList_append_full rfl _ _ 26 26 rfl w.heap.size 5 i0 _ 1 1 Tryd.underlying26 hi0 hz0 hz1 hz2 rfl ⟨g, 0, none⟩ xs.length (xs.map byteV) rfl (by simp) ?b0 _ 1 [.int .u8 ((n : Int) % 256)] rfl (Src.ofSlice _ Tryd.underlying26 ⟨w.heap.size, 0, none⟩ 1 1 _ rfl (byte_cell _ _ _) ?d0) (by decide) ?e0 ?f0 ?g0 ?_))
  case b0 => intro j u hj; rw [show (⟨g, 0, none⟩ : Addr).add j = ⟨g, j, none⟩ by unfold Addr.add; split <;> simp_all]; exact ((Keep.refl w).alloc _).cellOf (HC.out j u hj)
  case d0 => intro u hu; simp at hu; subst hu; rfl
  case e0 => unfold maxLen; omega
  case f0 => omega
  case g0 => simp
  intro v1 w1 hown hk
  rw [show (n : Int) % 256 = ((n % 256 : Nat) : Int) by omega] at hown
  have H1 : Hid (Own8 w1 w.heap.size v1 (xs ++ [n % 256])) := Lib.hid (by unfold Own8; simpa [byteV] using hown)
  have K1 := Lib.hid (((Keep.refl w).alloc _).trans hk)
  clear hown hk c0
  go_wp2_with fail
  rw [rounds_succ]
  go_wp2_with (at_builtin; (refine wpList_append_own_at _ rfl _ _ 26 rfl w.heap.size 5 i0 _ 1 1 Tryd.underlying26 hi0 hz0 hz1 hz2 rfl (by decide) _ _ _ rfl (World.ownsRow.alloc H1.out _) ⟨w1.heap.size, 0, none⟩ 1 1 [.int .u8 ((n : Int) / 256 % 256)] rfl rfl (byte_cell _ _ _) ?d1 ?e1 ?f1 ?g1 ?_))
  case d1 => intro u hu; simp at hu; subst hu; rfl
  case e1 => unfold maxLen; simp; omega
  case f1 => simp; omega
  case g1 => have := K1.out.size; simp; omega
  intro v2 w2 hown hgrow _ hblk
  rw [show (n : Int) / 256 % 256 = ((n / 256 % 256 : Nat) : Int) by omega] at hown
  have H2 : Hid (Own8 w2 w.heap.size v2 (xs ++ [n % 256, n / 256 % 256])) := Lib.hid (by unfold Own8; simpa [byteV] using hown)
  have K2 := Lib.hid (grow_keep0 (K1.out.alloc _) hgrow (fun g hg => (H1.out.lt g hg).1))
  clear hown hgrow hblk
  go_wp2_with fail
  rw [rounds_succ]
  go_wp2_with (at_builtin; (refine wpList_append_own_at _ rfl _ _ 26 rfl w.heap.size 5 i0 _ 1 1 Tryd.underlying26 hi0 hz0 hz1 hz2 rfl (by decide) _ _ _ rfl (World.ownsRow.alloc H2.out _) ⟨w2.heap.size, 0, none⟩ 1 1 [.int .u8 ((n : Int) / 65536 % 256)] rfl rfl (byte_cell _ _ _) ?d2 ?e2 ?f2 ?g2 ?_))
  case d2 => intro u hu; simp at hu; subst hu; rfl
  case e2 => unfold maxLen; simp; omega
  case f2 => simp; omega
  case g2 => have := K2.out.size; simp; omega
  intro v3 w3 hown hgrow _ hblk
  rw [show (n : Int) / 65536 % 256 = ((n / 65536 % 256 : Nat) : Int) by omega] at hown
  have H3 : Hid (Own8 w3 w.heap.size v3 (xs ++ [n % 256, n / 256 % 256, n / 65536 % 256])) := Lib.hid (by unfold Own8; simpa [byteV] using hown)
  have K3 := Lib.hid (grow_keep0 (K2.out.alloc _) hgrow (fun g hg => (H2.out.lt g hg).1))
  clear hown hgrow hblk
  go_wp2_with fail
  rw [rounds_succ]
  go_wp2_with (at_builtin; (refine wpList_append_own_at _ rfl _ _ 26 rfl w.heap.size 5 i0 _ 1 1 Tryd.underlying26 hi0 hz0 hz1 hz2 rfl (by decide) _ _ _ rfl (World.ownsRow.alloc H3.out _) ⟨w3.heap.size, 0, none⟩ 1 1 [.int .u8 ((n : Int) / 16777216)] rfl rfl (byte_cell _ _ _) ?d3 ?e3 ?f3 ?g3 ?_))
  case d3 => intro u hu; simp at hu; subst hu; rfl
  case e3 => unfold maxLen; simp; omega
  case f3 => simp; omega
  case g3 => have := K3.out.size; simp; omega
  intro v4 w4 hown hgrow _ hblk
  rw [show (n : Int) / 16777216 = ((n / 16777216 % 256 : Nat) : Int) by omega] at hown
  have H4 : Hid (Own8 w4 w.heap.size v4 (xs ++ [n % 256, n / 256 % 256, n / 65536 % 256, n / 16777216 % 256])) := Lib.hid (by unfold Own8; simpa [byteV] using hown)
  have K4 := Lib.hid (grow_keep0 (K3.out.alloc _) hgrow (fun g hg => (H3.out.lt g hg).1))
  clear hown hgrow hblk
  go_wp2_with fail
  rw [rounds_succ]
  have c4 := (HBN.out.keep K4.out).cells
  go_wp2_with fail
  rw [rounds_succ]
  go_wp2_with fail
  refine wp_loop_rounds 5 ?_
  rw [rounds_succ]
  clear c4
  go_wp2_with (at_builtin; (refine wpList_append_own_at _ rfl _ _ 26 rfl w.heap.size 5 i0 _ 1 1 Tryd.underlying26 hi0 hz0 hz1 hz2 rfl (by decide) _ _ _ rfl (World.ownsRow.alloc H4.out _) ⟨w4.heap.size, 0, none⟩ 1 1 [.int .u8 ((m : Int) % 256)] rfl rfl (byte_cell _ _ _) ?d4 ?e4 ?f4 ?g4 ?_))
  case d4 => intro u hu; simp at hu; subst hu; rfl
  case e4 => unfold maxLen; simp; omega
  case f4 => simp; omega
  case g4 => have := K4.out.size; simp; omega
  intro v5 w5 hown hgrow _ hblk
  rw [show (m : Int) % 256 = ((m % 256 : Nat) : Int) by omega] at hown
  have H5 : Hid (Own8 w5 w.heap.size v5 (xs ++ [n % 256, n / 256 % 256, n / 65536 % 256, n / 16777216 % 256, m % 256])) := Lib.hid (by unfold Own8; simpa [byteV] using hown)
  have K5 := Lib.hid (grow_keep0 (K4.out.alloc _) hgrow (fun g hg => (H4.out.lt g hg).1))
  clear hown hgrow hblk
  go_wp2_with fail
  rw [rounds_succ]
  go_wp2_with (at_builtin; (refine wpList_append_own_at _ rfl _ _ 26 rfl w.heap.size 5 i0 _ 1 1 Tryd.underlying26 hi0 hz0 hz1 hz2 rfl (by decide) _ _ _ rfl (World.ownsRow.alloc H5.out _) ⟨w5.heap.size, 0, none⟩ 1 1 [.int .u8 ((m : Int) / 256 % 256)] rfl rfl (byte_cell _ _ _) ?d5 ?e5 ?f5 ?g5 ?_))
  case d5 => intro u hu; simp at hu; subst hu; rfl
  case e5 => unfold maxLen; simp; omega
  case f5 => simp; omega
  case g5 => have := K5.out.size; simp; omega
  intro v6 w6 hown hgrow _ hblk
  rw [show (m : Int) / 256 % 256 = ((m / 256 % 256 : Nat) : Int) by omega] at hown
  have H6 : Hid (Own8 w6 w.heap.size v6 (xs ++ [n % 256, n / 256 % 256, n / 65536 % 256, n / 16777216 % 256, m % 256, m / 256 % 256])) := Lib.hid (by unfold Own8; simpa [byteV] using hown)
  have K6 := Lib.hid (grow_keep0 (K5.out.alloc _) hgrow (fun g hg => (H5.out.lt g hg).1))
  clear hown hgrow hblk
  go_wp2_with fail
  rw [rounds_succ]
  go_wp2_with (at_builtin; (refine wpList_append_own_at _ rfl _ _ 26 rfl w.heap.size 5 i0 _ 1 1 Tryd.underlying26 hi0 hz0 hz1 hz2 rfl (by decide) _ _ _ rfl (World.ownsRow.alloc H6.out _) ⟨w6.heap.size, 0, none⟩ 1 1 [.int .u8 ((m : Int) / 65536 % 256)] rfl rfl (byte_cell _ _ _) ?d6 ?e6 ?f6 ?g6 ?_))
  case d6 => intro u hu; simp at hu; subst hu; rfl
  case e6 => unfold maxLen; simp; omega
  case f6 => simp; omega
  case g6 => have := K6.out.size; simp; omega
  intro v7 w7 hown hgrow _ hblk
  rw [show (m : Int) / 65536 % 256 = ((m / 65536 % 256 : Nat) : Int) by omega] at hown
  have H7 : Hid (Own8 w7 w.heap.size v7 (xs ++ [n % 256, n / 256 % 256, n / 65536 % 256, n / 16777216 % 256, m % 256, m / 256 % 256, m / 65536 % 256])) := Lib.hid (by unfold Own8; simpa [byteV] using hown)
  have K7 := Lib.hid (grow_keep0 (K6.out.alloc _) hgrow (fun g hg => (H6.out.lt g hg).1))
  clear hown hgrow hblk
  go_wp2_with fail
  rw [rounds_succ]
  go_wp2_with (at_builtin; (refine wpList_append_own_at _ rfl _ _ 26 rfl w.heap.size 5 i0 _ 1 1 Tryd.underlying26 hi0 hz0 hz1 hz2 rfl (by decide) _ _ _ rfl (World.ownsRow.alloc H7.out _) ⟨w7.heap.size, 0, none⟩ 1 1 [.int .u8 ((m : Int) / 16777216)] rfl rfl (byte_cell _ _ _) ?d7 ?e7 ?f7 ?g7 ?_))
  case d7 => intro u hu; simp at hu; subst hu; rfl
  case e7 => unfold maxLen; simp; omega
  case f7 => simp; omega
  case g7 => have := K7.out.size; simp; omega
  intro v8 w8 hown hgrow _ hblk
  rw [show (m : Int) / 16777216 = ((m / 16777216 % 256 : Nat) : Int) by omega] at hown
  have H8 : Hid (Own8 w8 w.heap.size v8 (xs ++ [n % 256, n / 256 % 256, n / 65536 % 256, n / 16777216 % 256, m % 256, m / 256 % 256, m / 65536 % 256, m / 16777216 % 256])) := Lib.hid (by unfold Own8; simpa [byteV] using hown)
  have K8 := Lib.hid (grow_keep0 (K7.out.alloc _) hgrow (fun g hg => (H7.out.lt g hg).1))
  clear hown hgrow hblk
  go_wp2_with fail
  rw [rounds_succ]
  go_wp2_with fail
  rw [rounds_succ]
  go_wp2_with fail
  go_ret
  exact ⟨v8, rfl, by simpa [num4, List.append_assoc] using Own8.base H8.out hB, K8.out⟩
end Go.Proofs.YtmcbeclkocjlkaaDoor
