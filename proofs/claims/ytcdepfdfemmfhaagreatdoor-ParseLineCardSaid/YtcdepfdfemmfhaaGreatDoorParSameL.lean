/- hasplaw14.Same: of the same line: true. -/
import Derived.Test.YtcdepfdfemmfhaaGreatDoorParSame
namespace Go.Proofs.YtcdepfdfemmfhaaGreatDoor
set_option linter.unusedVariables false
set_option linter.unusedSimpArgs false
open Go.RowKit
/-- A row of rows of words lies where a slice says. -/
def ArgsAt (w : World) (v : Value) (args : List (List Tok)) : Prop := ∃ p cap, v = .slice p args.length cap ∧ args.length ≤ cap ∧ (args = [] ∨ ∃ b off, p = some ⟨b, off, none⟩ ∧ b < w.heap.size ∧ ∀ (i : Nat) (l : List Tok), args[i]? = some l → ∃ sv, w.cell? ⟨b, off + i, none⟩ = some sv ∧ TokAt w sv l)
theorem ArgsAt.keep {w w' : World} {v : Value} {args : List (List Tok)} (h : ArgsAt w v args) (k : Keep w w') : ArgsAt w' v args := by
  obtain ⟨p, cap, h1, h2, h3⟩ := h
  refine ⟨p, cap, h1, h2, ?_⟩
  rcases h3 with h | ⟨b, off, h4, h5, h6⟩
  · exact .inl h
  · refine .inr ⟨b, off, h4, Nat.lt_of_lt_of_le h5 k.size, fun i l hl => ?_⟩
    obtain ⟨sv, a, b⟩ := h6 i l hl
    exact ⟨sv, k.cellOf a, b.keep k⟩
theorem OutAt.args {w : World} {base : Nat} {v : Value} {out : List (List Tok)} (h : OutAt w base v out) : ArgsAt w v out := by
  obtain ⟨svs, h1, h2, h3⟩ := h
  obtain ⟨p, cap, rfl, hc, hr⟩ := own_at h2
  refine ⟨p, cap, rfl, hc, ?_⟩
  rcases hr with hr | ⟨g, vs, hp, hB, hx⟩
  · left; rw [hr] at h1; exact List.length_eq_zero_iff.1 h1.symm
  · refine .inr ⟨g, 0, hp, hB.lt, fun i l hl => ?_⟩
    have hi := (List.getElem?_eq_some_iff.1 hl).1
    have hs : svs[i]? = some (svs[i]'(by omega)) := List.getElem?_eq_getElem (by omega)
    refine ⟨svs[i]'(by omega), ?_, own_toks (h3 i _ l hs hl).1⟩
    rw [hB.cells, Nat.zero_add, hx i (by omega), hs]
theorem ArgsAt.slice {w : World} {v : Value} {args : List (List Tok)} (h : ArgsAt w v args) : ∃ p c, v = .slice p args.length c := by
  obtain ⟨p, c, e, _⟩ := h
  exact ⟨p, c, e⟩
theorem TokAt.slice {w : World} {v : Value} {l : List Tok} (h : TokAt w v l) : ∃ p c, v = .slice p l.length c := by
  obtain ⟨p, c, e, _⟩ := h
  exact ⟨p, c, e⟩
set_option maxHeartbeats 4000000 in
set_option maxRecDepth 100000 in
theorem sameLine (la na : ByteArray) (d : Bool) (u v : Value) (args : List (List Tok)) (few : args.length ≤ 1000000) (few2 : ∀ l ∈ args, l.length ≤ 1000000) (w : World) (hu : ArgsAt w u args) (hv : ArgsAt w v args) :
    Calls Tryz.prog 8 #[.agg #[.string la, .string na, .bool d, u], .agg #[.string la, .string na, .bool d, v]] w fun e w' => e = .returned (.bool true) ∧ Keep w w' := by
  obtain ⟨p, cap, rfl, hc, hl⟩ := hu
  obtain ⟨q, cap', rfl, hc', hl'⟩ := hv
  have HL := Lib.hid hl
  have HL' := Lib.hid hl'
  have F2 := Lib.hid few2
  clear hl hl' few2
  have s1 : (la.toList != la.toList) = false := by simp
  have s2 : (na.toList != na.toList) = false := by simp
  have s3 : (d != d) = false := by simp
  go_enter Tryz.func8, Tryz.ntmps8
  go_wp2_with fail
  have B0 := (Box.new w #[.string la, .string na, .bool d, .slice p args.length cap] 25).alloc (.cells #[.string la, .string na, .bool d, .slice q args.length cap'] 32)
  have B1 := Box.new1 w (.cells #[.string la, .string na, .bool d, .slice p args.length cap] 25) #[.string la, .string na, .bool d, .slice q args.length cap'] 32
  have HB0 := Lib.hid B0
  have HB1 := Lib.hid B1
  clear B0 B1
  go_loopw [5] (fun i wr => ∃ k : Nat, k ≤ args.length ∧ i = .int .i64 (k : Int) ∧ Box wr w.heap.size #[.string la, .string na, .bool d, .slice p args.length cap] ∧ Box wr (w.heap.size + 1) #[.string la, .string na, .bool d, .slice q args.length cap'] ∧ Keep w wr) (fun i _ => args.length - (intOf i).toNat)
  case atStart => exact ⟨0, Nat.zero_le _, rfl, HB0.out, HB1.out, ((Keep.refl _).alloc _).alloc _⟩
  case round =>
    obtain ⟨k, hk, rfl, hb0, hb1, hK⟩ := hrel
    have HK := Lib.hid hK
    have G0 := Lib.hid hb0
    have G1 := Lib.hid hb1
    have c0 := hb0.cells
    have c1 := hb1.cells
    clear hK HB0 HB1
    have k0 : (0 : Int) ≤ (k : Int) := Int.natCast_nonneg _
    by_cases h : k < args.length
    · have h' : (k : Int) < (args.length : Int) := by omega
      obtain ⟨l, hl⟩ : ∃ l, args[k]? = some l := ⟨_, List.getElem?_eq_getElem h⟩
      have hfew := F2.out l (List.mem_of_getElem? hl)
      rcases HL.out with h0 | ⟨b, off, rfl, hb, hcell⟩
      · rw [h0] at h; simp at h
      rcases HL'.out with h0 | ⟨b', off', rfl, hb', hcell'⟩
      · rw [h0] at h; simp at h
      obtain ⟨sv, ca, ta⟩ := hcell k l hl
      obtain ⟨sv', cb, tb⟩ := hcell' k l hl
      obtain ⟨x1, y1, rfl⟩ := ta.slice
      obtain ⟨x2, y2, rfl⟩ := tb.slice
      have CA := Lib.hid ca
      have CB := Lib.hid cb
      have C := Lib.hid (fun W (hW : Keep w W) => sameToks (.slice x1 l.length y1) (.slice x2 l.length y2) l hfew W (ta.keep hW) (tb.keep hW))
      clear hcell hcell' hl ca cb ta tb hfew
      go_wp2_with fail
      refine region_grows (Keep wr) (by kernel_rfl) (by kernel_rfl) (Keep.refl _).drew ?_
      repeat (first
        | (apply text_pass (by rfl)
           go_simp)
        | (apply text_step (by rfl)
           · intro W hW
             have a0 := (HK.out.trans hW).cellOf CA.out
             have b0 := (HK.out.trans hW).cellOf CB.out
             have d0 := (G0.out.keep hW).cells
             have d1 := (G1.out.keep hW).cells
             go_simp
             first
              | exact ⟨rfl, hW⟩
              | (apply yes_enter; go_at_call 13; refine (C.out _ (HK.out.trans hW)).mono ?_; rintro e w' ⟨rfl, hk⟩; exact ⟨rfl, hW.trans hk⟩)
           go_simp))
      apply text_end
      intro W5 hk5
      have K5 := Lib.hid (HK.out.trans hk5)
      have N0 := Lib.hid (G0.out.keep hk5)
      have N1 := Lib.hid (G1.out.keep hk5)
      clear hk5
      go_wp2_with fail
      go_roundw
      case rel => exact ⟨k + 1, h, by go_num, N0.out, N1.out, K5.out⟩
      case measure => simp [intOf]; omega
    · obtain rfl : k = args.length := by omega
      go_wp2_with fail
      go_ret
      exact ⟨rfl, HK.out⟩
end Go.Proofs.YtcdepfdfemmfhaaGreatDoor
