/- The reference's Lex: all words of a text. -/
import Derived.Test.YtcdepfdfemmfhaaGreatDoorLexOg
import Derived.Test.YtcdepfdfemmfhaaGreatDoorGBase
import Derived.Test.YtcdepfdfemmfhaaGreatDoorApp
namespace Go.Proofs.YtcdepfdfemmfhaaGreatDoor
set_option linter.unusedVariables false
set_option linter.unusedSimpArgs false
open Go.RowKit
theorem infoTok : (Tryz.prog.info? 56).map (fun i => (i.zero, i.size, i.bytes)) = some (some (.agg #[.int .i64 0, .string ⟨#[]⟩, .int .i64 0, .int .i64 0]), 4, 40) := by kernel_rfl
theorem tokRow_one (t : Tok) : ∀ u ∈ tokRow t, u.oneCell' = true := by
  intro u hu
  simp only [tokRow, List.mem_cons, List.not_mem_nil, or_false] at hu
  rcases hu with rfl | rfl | rfl | rfl <;> rfl
def colS : ByteArray := ⟨#[99, 111, 108]⟩
/-- What Lex answers. -/
def LexR (l : List UInt8) (w : World) (e : Ending) (w' : World) : Prop := match lexL l 0 with
  | .error (i, x) => e = .returned (.tuple #[.slice none 0 0, wrongV colS i x]) ∧ Keep w w'
  | .ok ts => ∃ v, e = .returned (.tuple #[v, okV]) ∧ w'.ownsRow w.heap.size 56 4 v ts.length (tokRows ts) ∧ Keep w w'
theorem LexR.bad {l : List UInt8} {w w' : World} {i : Nat} {x : Int} (h : lexL l 0 = .error (i, x)) (k : Keep w w') : LexR l w (.returned (.tuple #[.slice none 0 0, wrongV colS i x])) w' := by unfold LexR; rw [h]; exact ⟨rfl, k⟩
theorem LexR.ok {l : List UInt8} {w w' : World} {ts : List Tok} {v : Value} (h : lexL l 0 = .ok ts) (ho : w'.ownsRow w.heap.size 56 4 v ts.length (tokRows ts)) (k : Keep w w') : LexR l w (.returned (.tuple #[v, okV])) w' := by unfold LexR; rw [h]; exact ⟨v, rfl, ho, k⟩
/-- How far it is. -/
def LexAt (s : ByteArray) (k : Nat) (ts : List Tok) : Prop := lexL s.data.toList 0 = lexApp ts (lexL (s.data.toList.drop k) k)
set_option maxHeartbeats 2000000 in
set_option maxRecDepth 100000 in
theorem rlex_any (s : ByteArray) (hs : s.size ≤ 1000000) (w : World) : Calls Tryz.prog 16 #[.string s] w (LexR s.data.toList w) := by
  obtain ⟨i0, hi0, hz0, hz1, hz2⟩ := info_parts infoTok
  go_enter Tryz.func16, Tryz.ntmps16
  go_wp2_with fail
  go_loopw [4, 5] (fun v i wr => ∃ (k : Nat) (ts : List Tok), k ≤ s.size ∧ i = .int .i64 (k : Int) ∧ ts.length ≤ k ∧ wr.ownsRow (w.heap.size + 1) 56 4 v ts.length (tokRows ts) ∧ LexAt s k ts ∧ Box wr w.heap.size #[.string ⟨#[]⟩, .int .i64 0, .int .i64 0] ∧ Keep w wr) (fun _ i _ => s.size - (intOf i).toNat)
  case atStart => exact ⟨0, [], Nat.zero_le _, rfl, Nat.le_refl _, World.ownsRow_nil _ _ _ _, by unfold LexAt; rw [lexApp_nil]; rfl, Box.new _ _ _, (Keep.refl _).alloc _⟩
  case round =>
    obtain ⟨k, ts, hk, rfl, hts, hO, hA, hB, hK⟩ := hrel
    have HO := Lib.hid hO
    have HA := Lib.hid hA
    have HK := Lib.hid hK
    have r0 := hB.cells
    have rf := hB.thawed
    have LB := Lib.hid hB.lt
    have HB := Lib.hid hB
    clear hO hA hK hB
    by_cases h : k < s.size
    · have dk := drop_at s k h
      obtain ⟨b0, b1⟩ := byte_bd (s[k]'h)
      rcases Bool.eq_false_or_eq_true (((s[k]'h).toNat : Int) == 59) with d | d
      · have E : lexL s.data.toList 0 = .ok ts := by
          rw [HA.out, dk, lexL_semi k (beq_iff_eq.1 d)]
          simp [lexApp]
        have HE := Lib.hid E
        have d' : (((s[k]'h).toNat : Int) != 59) = false := by rw [bne, d]; rfl
        clear E dk
        go_wp2_with fail
        refine bodyPost_ret (v := .tuple #[u4, .agg #[.string ⟨#[]⟩, .int .i64 0, .int .i64 0]]) (by simp [results, Tryz.results16, go_sem, r0]; done) rfl (LexR.ok HE.out ?_ ?_)
        · have hne : ∀ k, (u4 : Value).ownBlock ≠ some (⟨w.heap.size, k, none⟩ : Addr).block := fun k hc => by have := (World.ownsRow.lt HO.out _ hc).1; dsimp only at this; omega
          exact owns_base (ownsRow_setCell_other (ownsRow_setCell_other (ownsRow_setCell_other HO.out (hne 0) _) (hne 1) _) (hne 2) _) (by omega)
        · repeat (with_reducible refine Keep.setAt ?_ ?_ _; · first | omega | (simp; done) | (simp; omega))
          exact HK.out
      · have d' : (((s[k]'h).toNat : Int) != 59) = true := by rw [bne, d]; rfl
        rcases Bool.eq_false_or_eq_true (((s[k]'h).toNat : Int) == 32) with b | b
        · have E : LexAt s (k + 1) ts := by
            have := HA.out
            unfold LexAt at this ⊢
            rw [this, dk, lexL_blank k (.inl (beq_iff_eq.1 b))]
          have HE := Lib.hid E
          clear E dk
          go_wp2_with fail
          go_roundw
          case rel => exact ⟨k + 1, ts, h, by go_num, by omega, HO.out, HE.out, HB.out, HK.out⟩
          case measure => simp [intOf]; omega
        · rcases Bool.eq_false_or_eq_true (((s[k]'h).toNat : Int) == 9) with c | c
          · have E : LexAt s (k + 1) ts := by
              have := HA.out
              unfold LexAt at this ⊢
              rw [this, dk, lexL_blank k (.inr (beq_iff_eq.1 c))]
            have HE := Lib.hid E
            clear E dk
            go_wp2_with fail
            go_roundw
            case rel => exact ⟨k + 1, ts, h, by go_num, by omega, HO.out, HE.out, HB.out, HK.out⟩
            case measure => simp [intOf]; omega
          · have dx : (s.extract k s.size).data.toList = s[k] :: s.data.toList.drop (k + 1) := by
              rw [ByteArray.data_extract, Array.toList_extract, ← dk]
              simp only [List.extract_eq_take_drop]
              rw [List.take_of_length_le (by simp)]
            have C := Lib.hid (fun W => rone_any (s.extract k s.size) (by rw [ByteArray.size_extract]; omega) (by rw [ByteArray.size_extract]; omega) W)
            rw [dx] at C
            have n59 : ((s[k]'h).toNat : Int) ≠ 59 := beq_eq_false_iff_ne.1 d
            have nbl : ¬ (((s[k]'h).toNat : Int) = 32 ∨ ((s[k]'h).toNat : Int) = 9) := by
              have h1 := beq_eq_false_iff_ne.1 b
              have h2 := beq_eq_false_iff_ne.1 c
              omega
            cases ho : oneL (s[k] :: s.data.toList.drop (k + 1)) with
            | error x =>
              have E : lexL s.data.toList 0 = .error (k, x) := by
                rw [HA.out, dk, lexL_err k n59 nbl ho]; rfl
              have HE := Lib.hid E
              have x0 : (x != 0) = true := by rcases oneL_err ho with rfl | rfl | rfl <;> rfl
              have HX := Lib.hid ho
              clear E dk dx ho n59 nbl
              go_wp2_with fail
              refine (C.out _).mono ?_
              rintro e w1 ⟨hr, hk1⟩
              unfold OneR at hr
              rw [HX.out] at hr
              obtain ⟨t, n, rfl⟩ := hr
              unfold tokV
              have B1 := (HB.out.keep hk1).alloc (.cells #[.int .i64 t.kind, .string t.text, .int .i64 t.n, .int .i64 t.pl] 56)
              have r1 := B1.cells
              have f1 := B1.thawed
              have K1 := Lib.hid (HK.out.trans hk1)
              clear r0 rf hk1
              go_wp2_with fail
              refine bodyPost_ret (v := .tuple #[.slice none 0 0, .agg #[.string ⟨#[99, 111, 108]⟩, .int .i64 k, .int .i64 x]]) (by simp [results, Tryz.results16, go_sem, r1]; done) rfl (LexR.bad HE.out ?_)
              repeat (with_reducible refine Keep.setAt ?_ ?_ _; · first | omega | (simp; done) | (simp; omega))
              exact K1.out.alloc _
            | ok x =>
              obtain ⟨t, n⟩ := x
              have hn := oneL_ok ho
              have hn1 := hn.1
              have hn2 : k + n ≤ s.size := by
                have := hn.2.1
                rw [← dk] at this
                simp at this
                omega
              have E : LexAt s (k + n) (ts ++ [{ t with pl := k }]) := by
                have := HA.out
                unfold LexAt at this ⊢
                rw [this, dk, lexL_ok k n59 nbl ho, lexApp_app, ← dk, List.drop_drop]
              have HE := Lib.hid E
              have HX := Lib.hid ho
              clear E dk dx ho n59 nbl hn
              go_wp2_with fail
              refine (C.out _).mono ?_
              rintro e w1 ⟨hr, hk1⟩
              unfold OneR at hr
              rw [HX.out] at hr
              subst hr
              unfold tokV
              have B1 := Lib.hid (HB.out.keep hk1)
              have K1 := Lib.hid (HK.out.trans hk1)
              have O1 := Lib.hid (owns_keep HO.out hk1)
              clear r0 rf hk1
              go_wp2_with (at_builtin; refine wpList_append_own _ rfl _ _ 43 rfl (w.heap.size + 1) 56 i0 _ 4 40 Tryz.underlying43 hi0 hz0 hz1 hz2 rfl (by decide) _ _ _ rfl ((O1.out.alloc _).alloc _) ⟨w1.heap.size + 1, 0, none⟩ 1 1 (tokRow { t with pl := k }) rfl rfl ?c1 ?c2 ?c3 ?c4 ?c5 ?_)
              case c1 =>
                have BR := Box.new1 w1 (.cells #[.int .i64 t.kind, .string t.text, .int .i64 t.n, .int .i64 k] 56) #[.int .i64 t.kind, .string t.text, .int .i64 t.n, .int .i64 k] 56
                intro j u hj
                match j, hj with
                | 0, hj => simp [tokRow] at hj; subst hj; simp [Addr.add, BR.cells]
                | 1, hj => simp [tokRow] at hj; subst hj; simp [Addr.add, BR.cells]
                | 2, hj => simp [tokRow] at hj; subst hj; simp [Addr.add, BR.cells]
                | 3, hj => simp [tokRow] at hj; subst hj; simp [Addr.add, BR.cells]
                | (n + 4), hj => simp [tokRow] at hj
              case c2 => exact tokRow_one _
              case c3 => unfold maxLen; omega
              case c4 => omega
              case c5 => have := B1.out.lt; simp; omega
              intro v' w2 hown' hgrow _
              have KG := Lib.hid (grown_keep ((K1.out.alloc _).alloc _) hgrow (fun c hc => by have := (World.ownsRow.lt O1.out c hc).1; omega))
              have BG := Lib.hid (grown_box hgrow ((B1.out.alloc _).alloc _) (fun hc => by have := (World.ownsRow.lt O1.out _ hc.symm).1; omega))
              have OG := Lib.hid hown'
              clear hgrow hown'
              go_wp2_with fail
              go_roundw
              case rel => exact ⟨k + n, ts ++ [{ t with pl := k }], hn2, by go_num, by simp; omega, by simpa [tokRows_append, tokRows] using OG.out, HE.out, BG.out, KG.out⟩
              case measure => simp [intOf]; omega
    · obtain rfl : k = s.size := by omega
      have E : lexL s.data.toList 0 = .ok ts := by
        rw [HA.out, drop_end s s.size (Nat.le_refl _), lexL_nil]
        simp [lexApp]
      have HE := Lib.hid E
      clear E
      go_wp2_with fail
      refine bodyPost_ret (v := .tuple #[u4, .agg #[.string ⟨#[]⟩, .int .i64 0, .int .i64 0]]) (by simp [results, Tryz.results16, go_sem, r0]; done) rfl (LexR.ok HE.out ?_ ?_)
      · have hne : ∀ k, (u4 : Value).ownBlock ≠ some (⟨w.heap.size, k, none⟩ : Addr).block := fun k hc => by have := (World.ownsRow.lt HO.out _ hc).1; dsimp only at this; omega
        exact owns_base (ownsRow_setCell_other (ownsRow_setCell_other (ownsRow_setCell_other HO.out (hne 0) _) (hne 1) _) (hne 2) _) (by omega)
      · repeat (with_reducible refine Keep.setAt ?_ ?_ _; · first | omega | (simp; done) | (simp; omega))
        exact HK.out
end Go.Proofs.YtcdepfdfemmfhaaGreatDoor
