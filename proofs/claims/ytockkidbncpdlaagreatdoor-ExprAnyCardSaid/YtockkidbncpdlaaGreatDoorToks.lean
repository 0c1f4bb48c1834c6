/- hasplaw12.To, hasplaw13.OfNames: words, names, copied. -/
import Derived.Test.YtockkidbncpdlaaGreatDoorEvAll
import Derived.Test.YtockkidbncpdlaaGreatDoorApp
namespace Go.Proofs.YtockkidbncpdlaaGreatDoor
set_option linter.unusedVariables false
set_option linter.unusedSimpArgs false
open Go.RowKit
theorem infoPTok : (Tryz.prog.info? 54).map (fun i => (i.zero, i.size, i.bytes)) = some (some (.agg #[.int .i64 0, .string ⟨#[]⟩, .int .i64 0, .int .i64 0]), 4, 40) := by kernel_rfl
theorem infoVal : (Tryz.prog.info? 59).map (fun i => (i.zero, i.size, i.bytes)) = some (some (.agg #[.string ⟨#[]⟩, .int .i64 0]), 2, 24) := by kernel_rfl
theorem RowAt.tok {w : World} {p : Option Addr} {toks : List Tok} (h : RowAt w p (tokRows toks)) {i : Nat} {t : Tok} (ht : toks[i]? = some t) : ∃ g vs, p = some ⟨g, 0, none⟩ ∧ g < w.heap.size ∧ Box w g vs ∧ vs[i * 4]? = some (.int .i64 t.kind) ∧ vs[i * 4 + 1]? = some (.string t.text) ∧ vs[i * 4 + 2]? = some (.int .i64 t.n) ∧ vs[i * 4 + 3]? = some (.int .i64 t.pl) := by
  have hi := (List.getElem?_eq_some_iff.1 ht).1
  have hl := tokRows_length toks
  rcases h with h | ⟨g, vs, h1, h3, h4⟩
  · rw [h] at hl; simp at hl; omega
  · refine ⟨g, vs, h1, h3.lt, h3, ?_, ?_, ?_, ?_⟩
    · rw [h4 _ (by omega)]; exact tokRows_row toks i 0 (by decide) t ht
    · rw [h4 _ (by omega)]; exact tokRows_row toks i 1 (by decide) t ht
    · rw [h4 _ (by omega)]; exact tokRows_row toks i 2 (by decide) t ht
    · rw [h4 _ (by omega)]; exact tokRows_row toks i 3 (by decide) t ht
theorem RowAt.name {w : World} {p : Option Addr} {l : List (ByteArray × Int)} (h : RowAt w p (nameRows l)) {i : Nat} {t : ByteArray × Int} (ht : l[i]? = some t) : ∃ g vs, p = some ⟨g, 0, none⟩ ∧ g < w.heap.size ∧ Box w g vs ∧ vs[i * 2]? = some (.string t.1) ∧ vs[i * 2 + 1]? = some (.int .i64 t.2) := by
  have hi := (List.getElem?_eq_some_iff.1 ht).1
  have hl := nameRows_length l
  rcases h with h | ⟨g, vs, h1, h3, h4⟩
  · rw [h] at hl; simp at hl; omega
  · refine ⟨g, vs, h1, h3.lt, h3, ?_, ?_⟩
    · rw [h4 _ (by omega)]; exact nameRows_row l i 0 (by decide) t ht
    · rw [h4 _ (by omega)]; exact nameRows_row l i 1 (by decide) t ht
/-- A row of names lies where a slice says, wherever in its block. -/
def NamesAt (w : World) (q : Option Addr) (l : List (ByteArray × Int)) : Prop := l = [] ∨ ∃ b off, q = some ⟨b, off, none⟩ ∧ b < w.heap.size ∧ ∀ (i : Nat) (x : ByteArray × Int), l[i]? = some x → w.cell? ⟨b, off + i * 2, none⟩ = some (.string x.1) ∧ w.cell? ⟨b, off + i * 2 + 1, none⟩ = some (.int .i64 x.2)
theorem NamesAt.keep {w w' : World} {q : Option Addr} {l : List (ByteArray × Int)} (h : NamesAt w q l) (k : Keep w w') : NamesAt w' q l := by
  rcases h with h | ⟨b, off, h1, h2, h3⟩
  · exact .inl h
  · exact .inr ⟨b, off, h1, Nat.lt_of_lt_of_le h2 k.size, fun i x hx => ⟨k.cellOf (h3 i x hx).1, k.cellOf (h3 i x hx).2⟩⟩
theorem RowAt.names {w : World} {p : Option Addr} {l : List (ByteArray × Int)} (h : RowAt w p (nameRows l)) : NamesAt w p l := by
  match l, h with
  | [], _ => exact .inl rfl
  | y :: l, h =>
    have h0 := RowAt.name h (i := 0) (t := y) rfl
    obtain ⟨g, vs, hp, hg, _⟩ := h0
    refine .inr ⟨g, 0, hp, hg, fun i x hx => ?_⟩
    obtain ⟨g', vs', hp', _, hb', v0, v1⟩ := RowAt.name h hx
    rw [hp] at hp'
    obtain rfl : g = g' := by have := Option.some.inj hp'; exact congrArg Addr.block this
    rw [hb'.cells, hb'.cells, Nat.zero_add]
    exact ⟨v0, v1⟩
theorem cell_but {S : Nat → Prop} {w w' : World} (k : KeepBut S w w') {b : Nat} (hb : b < w.heap.size) (hS : ¬ S b) {o : Nat} {v : Value} (h : w.cell? ⟨b, o, none⟩ = some v) : w'.cell? ⟨b, o, none⟩ = some v := by
  rw [← h]
  simp only [World.cell?, k.block b hb hS]
theorem take_row (l : List Tok) (k : Nat) (t : Tok) (h : l[k]? = some t) : tokRows (l.take (k + 1)) = tokRows (l.take k) ++ tokRow t := by
  obtain ⟨hk, rfl⟩ := List.getElem?_eq_some_iff.1 h
  rw [List.take_succ_eq_append_getElem hk, tokRows_append]
  simp [tokRows]
def nameRow (x : ByteArray × Int) : List Value := [.string x.1, .int .i64 x.2]
theorem take_name (l : List (ByteArray × Int)) (k : Nat) (t : ByteArray × Int) (h : l[k]? = some t) : nameRows (l.take (k + 1)) = nameRows (l.take k) ++ nameRow t := by
  obtain ⟨hk, rfl⟩ := List.getElem?_eq_some_iff.1 h
  rw [List.take_succ_eq_append_getElem hk]
  unfold nameRows nameRow
  rw [List.flatMap_append]
  rfl
theorem nameRow_one (t : ByteArray × Int) : ∀ u ∈ nameRow t, u.oneCell' = true := by
  intro u hu
  simp only [nameRow, List.mem_cons, List.not_mem_nil, or_false] at hu
  rcases hu with rfl | rfl <;> rfl
set_option maxHeartbeats 2000000 in
set_option maxRecDepth 100000 in
theorem to_any (p : Option Addr) (cap : Nat) (l : List Tok) (few : l.length ≤ 1000000) (hcap : l.length ≤ cap) (w : World) (h : RowAt w p (tokRows l)) :
    Calls Tryz.prog 7 #[.slice p l.length cap] w fun e w' => ∃ v, e = .returned v ∧ w'.ownsRow w.heap.size 54 4 v l.length (tokRows l) ∧ Keep w w' := by
  obtain ⟨i0, hi0, hz0, hz1, hz2⟩ := info_parts infoPTok
  have HT := Lib.hid h
  clear h
  go_enter Tryz.func7, Tryz.ntmps7
  go_wp2_with fail
  go_loopw [3, 4] (fun v i wr => ∃ k : Nat, k ≤ l.length ∧ i = .int .i64 (k : Int) ∧ wr.ownsRow w.heap.size 54 4 v k (tokRows (l.take k)) ∧ Keep w wr) (fun _ i _ => l.length - (intOf i).toNat)
  case atStart => exact ⟨0, Nat.zero_le _, rfl, World.ownsRow_nil _ _ _ _, Keep.refl _⟩
  case round =>
    obtain ⟨k, hk, rfl, hO, hK⟩ := hrel
    have k0 : (0 : Int) ≤ (k : Int) := Int.natCast_nonneg _
    have HO := Lib.hid hO
    have HK := Lib.hid hK
    clear hO hK
    by_cases h : k < l.length
    · obtain ⟨x, hx⟩ : ∃ x, l[k]? = some x := ⟨_, List.getElem?_eq_getElem h⟩
      have HX := Lib.hid hx
      have hki : (k : Int) < (l.length : Int) := by omega
      have HR := Lib.hid (take_row l k x hx)
      obtain ⟨g, vs, hp, hg, hb, v0, v1, v2, v3⟩ := HT.out.tok hx
      have HB := Lib.hid (hb.keep HK.out)
      subst hp
      have HG := Lib.hid hg
      clear hx hb hg
      go_wp2_with fail
      refine Rel.regionO (KeepBut (fun z => w.heap.size ≤ z)) (butWay _) [22, 23] [0, 1, 2, 3, 4, 5, 6, 7, 8, 9, 10, 11, 12, 13, 14, 15, 16, 17, 18, 19, 20, 21, 22, 23, 24] (by kernel_rfl) (by kernel_rfl) (Keep.refl _) ?_
      repeat (apply Rel.ordK_step (by rfl) (by rfl) (by rfl)
              · intro W' hW'
                have c := (HB.out.but hW' (by have := HG.out; omega)).cells
                go_simp
                exact ⟨rfl, Keep.refl _⟩
              go_simp)
      apply Rel.ordK_loose (by rfl) (by rfl) (by rfl)
      intro W1 hW1
      go_simp
      apply Rel.gives_value
      refine ⟨((Keep.refl _).alloc _).but _, ?_⟩
      have BR : Box (W1.alloc (.cells #[.int .i64 x.kind, .string x.text, .int .i64 x.n, .int .i64 x.pl] 54)) W1.heap.size #[.int .i64 x.kind, .string x.text, .int .i64 x.n, .int .i64 x.pl] := Box.new _ _ _
      have KA : Keep wr (W1.alloc (.cells #[.int .i64 x.kind, .string x.text, .int .i64 x.n, .int .i64 x.pl] 54)) := hW1.alloc _
      go_simp
      apply Rel.ordK_loose (by rfl) (by rfl) (by rfl)
      intro W3 hW3
      have K3 := KA.trans hW3
      have B3 := BR.keep hW3
      refine gives_append W3 (.tmp 11) (.tmp 33) 33 rfl w.heap.size 54 i0 _ 4 40 Tryz.underlying33 hi0 hz0 hz1 hz2 rfl (by decide) _ k (tokRows (l.take k)) rfl (owns_keep HO.out K3) ⟨W1.heap.size, 0, none⟩ 1 1 (tokRow x) rfl rfl
        (by
          intro j u hj
          match j, hj with
          | 0, hj => simp [tokRow] at hj; subst hj; simp [Addr.add, B3.cells]
          | 1, hj => simp [tokRow] at hj; subst hj; simp [Addr.add, B3.cells]
          | 2, hj => simp [tokRow] at hj; subst hj; simp [Addr.add, B3.cells]
          | 3, hj => simp [tokRow] at hj; subst hj; simp [Addr.add, B3.cells]
          | (n + 4), hj => simp [tokRow] at hj) (tokRow_one x) (by unfold maxLen; omega) (by omega) (by have := HK.out.size; have := K3.size; omega) ?_
      intro v' W' hown' hgrow
      have hS : ∀ g, Value.ownBlock _ = some g → w.heap.size ≤ g := fun g hg => (World.ownsRow.lt HO.out g hg).1
      have KB := grown_but hgrow (fun z => w.heap.size ≤ z) hS
      refine ⟨KB, ?_⟩
      have HK' := Lib.hid ((HK.out.trans K3).butNew KB (fun z hz => by omega))
      have HO' := Lib.hid hown'
      clear hgrow hS KB hown' K3 B3 hW3 BR KA hW1
      go_simp
      repeat (apply Rel.ordK_step (by rfl) (by rfl) (by rfl)
              · intro W' hW'
                go_simp
                exact ⟨rfl, Keep.refl _⟩
              go_simp)
      apply Rel.ordK_end
      intro W5 hW5
      have KE := Lib.hid (HK'.out.trans hW5)
      have OE := Lib.hid (owns_keep HO'.out hW5)
      clear hW5 HK' HO'
      go_wp2_with fail
      refine ⟨⟨k + 1, h, by simp, ?_, KE.out⟩, by simp [intOf]; omega⟩
      rw [HR.out]
      exact OE.out
    · obtain rfl : k = l.length := by omega
      go_wp2_with fail
      go_ret
      refine ⟨_, rfl, ?_, HK.out⟩
      have := HO.out
      rwa [List.take_length] at this
set_option maxHeartbeats 2000000 in
set_option maxRecDepth 100000 in
theorem ofNames_any (p : Option Addr) (cap : Nat) (l : List (ByteArray × Int)) (few : l.length ≤ 1000000) (hcap : l.length ≤ cap) (w : World) (h : NamesAt w p l) :
    Calls Tryz.prog 9 #[.slice p l.length cap] w fun e w' => ∃ v, e = .returned v ∧ w'.ownsRow w.heap.size 59 2 v l.length (nameRows l) ∧ Keep w w' := by
  obtain ⟨i0, hi0, hz0, hz1, hz2⟩ := info_parts infoVal
  have HT := Lib.hid h
  clear h
  go_enter Tryz.func9, Tryz.ntmps9
  go_wp2_with fail
  go_loopw [3, 4] (fun v i wr => ∃ k : Nat, k ≤ l.length ∧ i = .int .i64 (k : Int) ∧ wr.ownsRow w.heap.size 59 2 v k (nameRows (l.take k)) ∧ Keep w wr) (fun _ i _ => l.length - (intOf i).toNat)
  case atStart => exact ⟨0, Nat.zero_le _, rfl, World.ownsRow_nil _ _ _ _, Keep.refl _⟩
  case round =>
    obtain ⟨k, hk, rfl, hO, hK⟩ := hrel
    have k0 : (0 : Int) ≤ (k : Int) := Int.natCast_nonneg _
    have HO := Lib.hid hO
    have HK := Lib.hid hK
    clear hO hK
    by_cases h : k < l.length
    · obtain ⟨x, hx⟩ : ∃ x, l[k]? = some x := ⟨_, List.getElem?_eq_getElem h⟩
      have HX := Lib.hid hx
      have hki : (k : Int) < (l.length : Int) := by omega
      have HR := Lib.hid (take_name l k x hx)
      obtain ⟨g, off, hp, hg, hx2⟩ : ∃ b off, p = some ⟨b, off, none⟩ ∧ b < w.heap.size ∧ w.cell? ⟨b, off + k * 2, none⟩ = some (.string x.1) ∧ w.cell? ⟨b, off + k * 2 + 1, none⟩ = some (.int .i64 x.2) := by
        rcases HT.out with h0 | ⟨b, off, h1, h2, h3⟩
        · rw [h0] at hx; simp at hx
        · exact ⟨b, off, h1, h2, h3 k x hx⟩
      have HB := Lib.hid (⟨HK.out.cellOf hx2.1, HK.out.cellOf hx2.2⟩ : wr.cell? ⟨g, off + k * 2, none⟩ = some (.string x.1) ∧ wr.cell? ⟨g, off + k * 2 + 1, none⟩ = some (.int .i64 x.2))
      subst hp
      have HG := Lib.hid hg
      have HGr : Hid (g < wr.heap.size) := Lib.hid (Nat.lt_of_lt_of_le hg HK.out.size)
      clear hx hx2 hg
      go_wp2_with fail
      refine Rel.regionO (KeepBut (fun z => w.heap.size ≤ z)) (butWay _) [12, 13] [0, 1, 2, 3, 4, 5, 6, 7, 8, 9, 10, 11, 12, 13, 14] (by kernel_rfl) (by kernel_rfl) (Keep.refl _) ?_
      repeat (apply Rel.ordK_step (by rfl) (by rfl) (by rfl)
              · intro W' hW'
                have c0 := cell_but hW' HGr.out (by have := HG.out; omega) HB.out.1
                have c1 := cell_but hW' HGr.out (by have := HG.out; omega) HB.out.2
                go_simp
                exact ⟨rfl, Keep.refl _⟩
              go_simp)
      apply Rel.ordK_loose (by rfl) (by rfl) (by rfl)
      intro W1 hW1
      go_simp
      apply Rel.gives_value
      refine ⟨((Keep.refl _).alloc _).but _, ?_⟩
      have BR : Box (W1.alloc (.cells #[.string x.1, .int .i64 x.2] 59)) W1.heap.size #[.string x.1, .int .i64 x.2] := Box.new _ _ _
      have KA : Keep wr (W1.alloc (.cells #[.string x.1, .int .i64 x.2] 59)) := hW1.alloc _
      go_simp
      apply Rel.ordK_loose (by rfl) (by rfl) (by rfl)
      intro W3 hW3
      have K3 := KA.trans hW3
      have B3 := BR.keep hW3
      refine gives_append W3 (.tmp 11) (.tmp 23) 37 rfl w.heap.size 59 i0 _ 2 24 Tryz.underlying37 hi0 hz0 hz1 hz2 rfl (by decide) _ k (nameRows (l.take k)) rfl (owns_keep HO.out K3) ⟨W1.heap.size, 0, none⟩ 1 1 (nameRow x) rfl rfl
        (by
          intro j u hj
          match j, hj with
          | 0, hj => simp [nameRow] at hj; subst hj; simp [Addr.add, B3.cells]
          | 1, hj => simp [nameRow] at hj; subst hj; simp [Addr.add, B3.cells]
          | (n + 2), hj => simp [nameRow] at hj) (nameRow_one x) (by unfold maxLen; omega) (by omega) (by have := HK.out.size; have := K3.size; omega) ?_
      intro v' W' hown' hgrow
      have hS : ∀ g, Value.ownBlock _ = some g → w.heap.size ≤ g := fun g hg => (World.ownsRow.lt HO.out g hg).1
      have KB := grown_but hgrow (fun z => w.heap.size ≤ z) hS
      refine ⟨KB, ?_⟩
      have HK' := Lib.hid ((HK.out.trans K3).butNew KB (fun z hz => by omega))
      have HO' := Lib.hid hown'
      clear hgrow hS KB hown' K3 B3 hW3 BR KA hW1
      go_simp
      repeat (apply Rel.ordK_step (by rfl) (by rfl) (by rfl)
              · intro W' hW'
                go_simp
                exact ⟨rfl, Keep.refl _⟩
              go_simp)
      apply Rel.ordK_end
      intro W5 hW5
      have KE := Lib.hid (HK'.out.trans hW5)
      have OE := Lib.hid (owns_keep HO'.out hW5)
      clear hW5 HK' HO'
      go_wp2_with fail
      refine ⟨⟨k + 1, h, by simp, ?_, KE.out⟩, by simp [intOf]; omega⟩
      rw [HR.out]
      exact OE.out
    · obtain rfl : k = l.length := by omega
      go_wp2_with fail
      go_ret
      refine ⟨_, rfl, ?_, HK.out⟩
      have := HO.out
      rwa [List.take_length] at this
end Go.Proofs.YtockkidbncpdlaaGreatDoor
