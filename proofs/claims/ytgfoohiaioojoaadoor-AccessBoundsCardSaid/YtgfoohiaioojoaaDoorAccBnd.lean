/- What a store through a capability leaves as it was: plain. -/
import Derived.Test.YtgfoohiaioojoaaDoorAccFilled
import Derived.Test.YtgfoohiaioojoaaDoorGMemC
namespace Go.Proofs.YtgfoohiaioojoaaDoor
set_option linter.unusedVariables false
set_option linter.unusedSimpArgs false
open Go.RowKit
theorem lackN_zero {t : Bool} {b p m y x n q : Int} (h : lackN t b p m y x n q = 0) : t = true ∧ (bits .and .u16 m q == q) = true ∧ b ≤ x ∧ x + n ≤ p := by
  unfold lackN at h
  split at h
  · exact absurd h (by decide)
  split at h
  · exact absurd h (by decide)
  split at h
  · exact absurd h (by decide)
  split at h
  · exact absurd h (by decide)
  · rename_i h1 h2 h3 h4
    refine ⟨by simpa using h1, by simpa using h3, ?_⟩
    have : hasB b p x n = true := by simpa using h4
    simpa [hasB] using this
theorem write_not {L : Nat} {bs : List Int} {ts : List Bool} {t : Bool} {b p a m y off n v : Int} (hL : bs.length = L) (h : writeE L t b p a m y off n ≠ okV) : writeB bs t b p a m y off n v = bs ∧ writeT L ts t b p a m y off n = ts := by
  unfold writeE at h
  unfold writeB writeT
  by_cases hok : numOk t b p a m y off n 2
  · rw [if_pos hok] at h
    rw [if_pos hok, if_pos hok]
    have hr : ¬ reachB (plc a off) n L = true := fun hr => h (if_pos hr)
    have hn := numOk_size hok
    have tk := take_b4 v n hn
    unfold storeB storeT
    rw [tk, hL, show ((n.toNat : Nat) : Int) = n by omega, if_neg hr, if_neg hr]
    exact ⟨rfl, rfl⟩
  · rw [if_neg hok, if_neg hok]
    exact ⟨rfl, rfl⟩
theorem wcap_not {L : Nat} {bs : List Int} {ts : List Bool} {t : Bool} {b p a m y off : Int} {tv : Bool} {b' p' a' m' y' : Int} (hL : bs.length = L) (h : capE L t b p a m y off (needs tv) ≠ okV) : wcapB bs t b p a m y off tv b' p' a' m' y' = bs ∧ wcapT L ts t b p a m y off tv = ts := by
  unfold capE at h
  unfold wcapB wcapT
  by_cases hok : capOk t b p a m y off (needs tv)
  · rw [if_pos hok] at h
    rw [if_pos hok, if_pos hok]
    have hr : ¬ capAt L (plc a off) := fun hr => h (granV_ok hr)
    unfold scapB scapT
    rw [hL, if_neg hr, if_neg hr]
    exact ⟨rfl, rfl⟩
  · rw [if_neg hok, if_neg hok]
    exact ⟨rfl, rfl⟩
theorem writeB_far (bs : List Int) (t : Bool) (b p a m y off n v : Int) (i : Nat) (h : ¬ (b ≤ (i : Int) ∧ (i : Int) < p)) : (writeB bs t b p a m y off n v).getD i 0 = bs.getD i 0 := by
  unfold writeB
  by_cases hok : numOk t b p a m y off n 2
  · rw [if_pos hok]
    unfold storeB
    have hn := numOk_size hok
    have tk := take_b4 v n hn
    by_cases hr : reachB (plc a off) (((b4 v).take n.toNat).length : Nat) bs.length = true
    · rw [if_pos hr]
      obtain ⟨r0, _, r2⟩ := reachB_true hr
      obtain ⟨_, _, h1, h2⟩ := lackN_zero hok.2
      rw [putAt_getD _ _ _ _ (by omega), if_neg (by rw [tk]; omega)]
    · rw [if_neg hr]
  · rw [if_neg hok]
theorem wcapB_far (bs : List Int) (t : Bool) (b p a m y off : Int) (tv : Bool) (b' p' a' m' y' : Int) (i : Nat) (h : ¬ (b ≤ (i : Int) ∧ (i : Int) < p)) : (wcapB bs t b p a m y off tv b' p' a' m' y').getD i 0 = bs.getD i 0 := by
  unfold wcapB
  by_cases hok : capOk t b p a m y off (needs tv)
  · rw [if_pos hok]
    unfold scapB
    by_cases hr : capAt bs.length (plc a off)
    · rw [if_pos hr]
      obtain ⟨r0, _, r2⟩ := reachB_true hr.1
      obtain ⟨_, _, h1, h2⟩ := lackN_zero hok
      rw [putAt_getD _ _ _ _ (by rw [putL_length]; omega), if_neg (by rw [putL_length]; omega)]
    · rw [if_neg hr]
  · rw [if_neg hok]
theorem both_far (bs : List Int) (t : Bool) (b p a m y off n v : Int) (tv : Bool) (b' p' a' m' y' : Int) (i : Nat) (h : (wcapB (writeB bs t b p a m y off n v) t b p a m y off tv b' p' a' m' y').getD i 0 ≠ bs.getD i 0) : b ≤ (i : Int) ∧ (i : Int) < p := by
  refine Decidable.byContradiction fun hc => h ?_
  rw [wcapB_far _ _ _ _ _ _ _ _ _ _ _ _ _ _ _ hc, writeB_far _ _ _ _ _ _ _ _ _ _ _ hc]
theorem writeT_on (L : Nat) (ts : List Bool) (t : Bool) (b p a m y off n : Int) (g : Nat) (h : (writeT L ts t b p a m y off n).getD g false = true) : ts.getD g false = true := by
  unfold writeT storeT at h
  repeat' split at h
  · rw [offAt_getD] at h
    simp only [Bool.and_eq_true] at h
    exact h.1
  · exact h
  · exact h
theorem writeT_length (L : Nat) (ts : List Bool) (t : Bool) (b p a m y off n : Int) : (writeT L ts t b p a m y off n).length = ts.length := by
  unfold writeT storeT
  repeat' split
  · rw [offAt_length]
  · rfl
  · rfl
/-- A tag that is new: a capability was stored there, and might be. -/
theorem both_tag (L : Nat) (ts : List Bool) (t : Bool) (b p a m y off n : Int) (tv : Bool) (g : Nat) (hL : L = 16 * ts.length) (h1 : (wcapT L (writeT L ts t b p a m y off n) t b p a m y off tv).getD g false = true) (h2 : ts.getD g false = false) :
    tv = true ∧ (bits .and .u16 m 18 == 18) = true ∧ b ≤ 16 * (g : Int) ∧ 16 * (g : Int) + 16 ≤ p := by
  unfold wcapT at h1
  have hno : ¬ (writeT L ts t b p a m y off n).getD g false = true := fun h => by have := writeT_on _ _ _ _ _ _ _ _ _ _ _ h; rw [h2] at this; cases this
  by_cases hok : capOk t b p a m y off (needs tv)
  · rw [if_pos hok] at h1
    unfold scapT at h1
    by_cases hr : capAt L (plc a off)
    · rw [if_pos hr] at h1
      obtain ⟨r0, _, r2⟩ := reachB_true hr.1
      have hm := hr.2
      rw [set_getD _ _ _ _ (by rw [writeT_length]; omega)] at h1
      by_cases e : g = (plc a off).toNat / 16
      · rw [if_pos e] at h1
        subst h1
        obtain ⟨_, hp, h3, h4⟩ := lackN_zero hok
        exact ⟨rfl, hp, by omega, by omega⟩
      · rw [if_neg e] at h1
        exact absurd h1 hno
    · rw [if_neg hr] at h1
      exact absurd h1 hno
  · rw [if_neg hok] at h1
    exact absurd h1 hno
theorem sc_bit (m : Int) (hm : 0 ≤ m ∧ m ≤ 65535) (h : (bits .and .u16 m 18 == 18) = true) : (bits .and .u16 m 16 == 0) = false := by
  rw [u16_and m 18 (by omega) (by omega) (by decide) (by decide)] at h
  rw [u16_and m 16 (by omega) (by omega) (by decide) (by decide)]
  have e : m.toNat &&& 18 = 18 := by
    have h2 := eq_of_beq h
    exact Int.ofNat_inj.1 (show ((m.toNat &&& (18 : Int).toNat : Nat) : Int) = ((18 : Nat) : Int) from h2)
  have e2 : m.toNat &&& 16 = 16 := by
    have : m.toNat &&& (18 &&& 16) = (m.toNat &&& 18) &&& 16 := (Nat.and_assoc _ _ _).symm
    rw [e] at this
    exact this
  rw [show (16 : Int).toNat = 16 from rfl, e2]
  rfl
theorem tagsAt_mem (ts : List Bool) : ∀ (n k : Nat), k < (tagsAt ts n).length → ∃ q, q < n ∧ ts.getD q false = true ∧ (tagsAt ts n).getD k 0 = 16 * (q : Int) := by
  intro n
  induction n with
  | zero => intro k hk; simp [tagsAt] at hk
  | succ n ih =>
    intro k hk
    unfold tagsAt at hk ⊢
    by_cases h : ts.getD n false = true
    · rw [if_pos h] at hk ⊢
      by_cases hkl : k < (tagsAt ts n).length
      · obtain ⟨q, h1, h2, h3⟩ := ih k hkl
        refine ⟨q, by omega, h2, ?_⟩
        rw [← h3]
        simp only [List.getD_eq_getElem?_getD]
        rw [List.getElem?_append_left hkl]
      · have : k = (tagsAt ts n).length := by simp at hk; omega
        subst this
        refine ⟨n, by omega, h, ?_⟩
        simp [List.getD_eq_getElem?_getD]
    · rw [if_neg h] at hk ⊢
      obtain ⟨q, h1, h2, h3⟩ := ih k hk
      exact ⟨q, by omega, h2, h3⟩
/-- Neither store went: nothing changed. -/
theorem both_not {bs : List Int} {ts : List Bool} {t : Bool} {b p a m y off n v : Int} {tv : Bool} {b' p' a' m' y' : Int} (hL : bs.length = 128) (h1 : writeE 128 t b p a m y off n ≠ okV) (h2 : capE 128 t b p a m y off (needs tv) ≠ okV) :
    wcapB (writeB bs t b p a m y off n v) t b p a m y off tv b' p' a' m' y' = bs ∧ wcapT 128 (writeT 128 ts t b p a m y off n) t b p a m y off tv = ts := by
  have e1 := write_not (ts := ts) (v := v) hL h1
  have e2 := wcap_not (ts := ts) (b' := b') (p' := p') (a' := a') (m' := m') (y' := y') hL h2
  rw [e1.1, e1.2]
  exact e2
/-- Without a tag neither goes. -/
theorem no_tag {b p a m y off n : Int} {tv : Bool} : writeE 128 false b p a m y off n ≠ okV ∧ capE 128 false b p a m y off (needs tv) ≠ okV := by
  have l1 : ∀ x k q, lackN false b p m y x k q = 1 := fun x k q => if_pos rfl
  constructor
  · unfold writeE
    rw [if_neg (fun hok => by have := hok.2; rw [l1] at this; cases this)]
    unfold numE
    split
    · rw [l1]
      exact fun h => absurd (okV_wrong (part := accessT) (at_ := plc a off) (n := 1) h.symm) (by decide)
    · exact fun h => absurd (okV_wrong h.symm) (by decide)
  · unfold capE
    rw [if_neg (fun hok => by unfold capOk at hok; rw [l1] at hok; cases hok), l1]
    exact fun h => absurd (okV_wrong h.symm) (by decide)
/-- One byte that is there. -/
theorem dload1 {w : World} {dm : Nat} {O : Nat → Prop} {bs : List Int} {ts : List Bool} (k : Nat) (hk : k < bs.length) (h : DMem w dm O bs ts) :
    Calls Tryd.prog 27 #[.pointer (some ⟨dm, 0, none⟩), .int .i64 (k : Int), .int .i64 1] w fun e w' => ∃ g o cs, e = .returned (.tuple #[.slice (some ⟨g, o, none⟩) 1 cs, .nilIface]) ∧ w'.cell? ⟨g, o, none⟩ = some (.int .u8 (bs.getD k 0)) ∧ (1 ≤ cs ∧ cs ≤ 9223372036854775807) ∧ Keep w w' := by
  have hM := h.most
  refine (dload_u (k : Int) 1 (by unfold In64; omega) (by unfold In64; decide) h).mono ?_
  rintro e w' ⟨s, u, rfl, hu, hs, hkp⟩
  have hr : reachB (k : Int) 1 bs.length = true := by simp [reachB]; omega
  rw [show loadV bs.length (k : Int) 1 = okV from if_pos hr] at hu
  obtain rfl := hu.ok
  have hl : loadL bs (k : Int) 1 = [bs.getD k 0] := by
    unfold loadL
    rw [if_pos hr, Int.toNat_natCast, show (1 : Int).toNat = 1 from rfl]
    rw [List.take_one, List.head?_drop, List.getD_eq_getElem?_getD, List.getElem?_eq_getElem hk]
    rfl
  rw [hl] at hs
  obtain ⟨ad, cs, rfl, h1, h2, h3⟩ := hs
  obtain ⟨g, o, rfl, -, -, hc⟩ := h3 0 (by simp)
  exact ⟨g, o, cs, rfl, by simpa using hc, ⟨by simpa using h1, h2⟩, hkp⟩
end Go.Proofs.YtgfoohiaioojoaaDoor
