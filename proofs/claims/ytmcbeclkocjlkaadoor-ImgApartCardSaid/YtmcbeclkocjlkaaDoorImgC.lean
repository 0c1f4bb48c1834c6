/- What the program's img is to answer; nothing that is wrong has the error 0. Pre: what is laid ahead of a call (any predicate that lasts and holds errors.errorType). -/
import Derived.Test.YtmcbeclkocjlkaaDoorImgFewW
import Derived.Test.YtmcbeclkocjlkaaDoorObjNz
import Derived.Test.YtmcbeclkocjlkaaDoorImgSameC
import Derived.Test.YtmcbeclkocjlkaaDoorGImgF
import Derived.Test.YtmcbeclkocjlkaaDoorImgChkC
namespace Go.Proofs.YtmcbeclkocjlkaaDoor
set_option linter.unusedVariables false
set_option linter.unusedSimpArgs false
open Go Go.RowKit
def decIW (l : List Nat) : WrV := match decI l with
  | .ok _ => okW
  | .error x => x
def PImgEncode (Pre : World → Prop) : Prop := ∀ (i : ImgV) (vp vs vi vb : Value) (ves : List Value) (w : World), ImgAt w i vp vs vi vb ves → ImgNum i → ImgFew i → Pre w →
  Calls Tryd.prog 7 #[imgVal i vp vs vi vb] w fun e w' => Keep w w' ∧ ∃ p n cap u, e = .returned (.tuple #[.slice p n cap, u]) ∧ OErr w' u (imgW i) ∧ ((imgW i).2.2 = 0 → n = (encI i).length ∧ SlAt w' (.slice p n cap) n ((encI i).map byteV))
def PImgDecode (Pre : World → Prop) : Prop := ∀ (v : Value) (l : List Nat) (w : World), SlAt w v l.length (l.map byteV) → (∀ x ∈ l, x < 256) → l.length ≤ 100000 → Pre w →
  Calls Tryd.prog 8 #[v] w fun e w' => Keep w w' ∧ ∃ (i : ImgV) (vp vs vi vb : Value) (ves : List Value) (u : Value), e = .returned (.tuple #[imgVal i vp vs vi vb, u]) ∧ ImgAt w' i vp vs vi vb ves ∧ OErr w' u (decIW l) ∧ ∀ y, decI l = .ok y → i = y
/-! ### No error is 0 -/
theorem span_nz : Nz spanR := then_nz num_nz fun _ => then_nz num_nz fun _ => ok_nz _
theorem ent_nz : Nz entR := then_nz num_nz fun _ => ok_nz _
theorem part_nz : Nz partR := then_nz str_nz fun _ => then_nz span_nz fun _ => then_nz span_nz fun _ => then_nz span_nz fun _ => then_nz (most_nz 64 15 (by decide)) fun m => then_nz (many_nz ent_nz m) fun _ => ok_nz _
theorem init_nz : Nz initR := then_nz (most_nz 2147483647 14 (by decide)) fun _ => then_nz num_nz fun _ => then_nz (most_nz 2147483647 14 (by decide)) fun _ => then_nz (upto_nz 0 1) fun _ => then_nz (most_nz 2147483647 14 (by decide)) fun _ => then_nz num_nz fun _ => then_nz (most_nz 65535 11 (by decide)) fun _ => ok_nz _
theorem img_nz {l : List Nat} {e : Int × Int} (h : imgR l 0 = .error e) : e.2 ≠ 0 := by
  have hb : Nz imgR :=
    then_nz (head_nz himg) fun _ => then_nz num_nz fun _ => then_nz (most_nz 64 15 (by decide)) fun n => then_nz (many_nz part_nz n) fun _ => then_nz (most_nz 64 15 (by decide)) fun n => then_nz (many_nz span_nz n) fun _ =>
      then_nz (most_nz 512 15 (by decide)) fun n => then_nz (many_nz init_nz n) fun _ => then_nz (most_nz 2147483647 14 (by decide)) fun _ => then_nz num_nz fun _ => then_nz (most_nz 65536 15 (by decide)) fun n => then_nz (take_nz n) fun _ => ok_nz _
  exact hb l 0 e h
theorem decI_nz {l : List Nat} {x : WrV} (h : decI l = .error x) : x.2.2 ≠ 0 := by
  unfold decI at h
  split at h
  · rename_i a e he
    simp only [Except.error.injEq] at h
    rw [← h]; exact img_nz he
  · split at h
    · simp only [Except.error.injEq] at h; rw [← h]; exact (by decide : (11 : Int) ≠ 0)
    · split at h
      · cases h
      · rename_i hz
        simp only [Except.error.injEq] at h
        rw [← h]; exact hz
theorem decIW_err {l : List Nat} {x : WrV} (h : decI l = .error x) : decIW l = x := by unfold decIW; rw [h]
theorem decIW_nz {l : List Nat} (h : ∃ x, decI l = .error x) : (decIW l).2.2 ≠ 0 := by
  obtain ⟨x, hx⟩ := h
  rw [decIW_err hx]
  exact decI_nz hx
theorem len_flat {α : Type} (f : α → List Nat) (m : Nat) (l : List α) : (∀ a ∈ l, (f a).length ≤ m) → (l.flatMap f).length ≤ l.length * m := by
  induction l with
  | nil => intro _; simp
  | cons a l ih =>
    intro h
    have h1 := h a (by simp)
    have h2 := ih (fun b hb => h b (by simp [hb]))
    rw [List.flatMap_cons, List.length_append, List.length_cons, Nat.add_mul]
    omega
theorem encI_lt {i : ImgV} (hn : ImgNum i) (hk : ImgOk i) (hf : ImgFew i) : (∀ x ∈ encI i, x < 256) ∧ (encI i).length ≤ 20000 ∧ 16 ≤ (encI i).length := by
  have hstr : ∀ s : ByteArray, s.size ≤ 100 → (∀ x ∈ strB s, x < 256) ∧ (strB s).length ≤ 101 := fun s hs => by
    refine ⟨fun x hx => ?_, by simp [strB]; omega⟩
    simp only [strB, List.mem_cons, List.mem_map] at hx
    rcases hx with rfl | ⟨c, _, rfl⟩
    · omega
    · have := c.toNat_lt; omega
  have hnum : ∀ n x, x ∈ num4 n → x < 256 := fun n x hx => by
    simp only [num4, List.mem_cons, List.not_mem_nil, or_false] at hx
    omega
  have hspan : ∀ s x, x ∈ spanB s → x < 256 := fun s x hx => by
    simp only [spanB, List.mem_append] at hx
    rcases hx with h | h <;> exact hnum _ x h
  have hspl : ∀ s, (spanB s).length = 8 := fun s => by simp [spanB, num4_length]
  have hpl : (i.parts.flatMap partB).length ≤ i.parts.length * 410 := len_flat partB 410 _ fun p hp => by
    have h1 := (hstr p.name (hf.names p hp)).2
    have h2 := hf.ents p hp
    have h3 : (p.entries.flatMap entB).length ≤ p.entries.length * 4 := len_flat entB 4 _ fun e _ => by simp [entB, num4_length]
    simp only [partB, List.length_append, hspl, num4_length]; omega
  have hsl : (i.shares.flatMap spanB).length ≤ i.shares.length * 8 := len_flat spanB 8 _ fun s _ => by rw [hspl]; omega
  have hil : (i.inits.flatMap initB).length ≤ i.inits.length * 25 := len_flat initB 25 _ fun x _ => by
    simp only [initB, List.length_append, List.length_cons, num4_length]; omega
  have f1 := hf.parts
  have f2 := hf.shares
  have f3 := hf.inits
  have f4 := hf.bytes
  refine ⟨fun x hx => ?_, ?_, ?_⟩
  · simp only [encI, List.mem_append, List.mem_flatMap] at hx
    rcases hx with h | h | h | ⟨p, hp, h⟩ | h | ⟨s, hs, h⟩ | h | ⟨y, hy, h⟩ | h | h | h | h
    · simp only [himg, List.mem_cons, List.not_mem_nil, or_false] at h; omega
    · exact hnum _ x h
    · exact hnum _ x h
    · simp only [partB, List.mem_append, List.mem_flatMap] at h
      rcases h with h | h | h | h | h | ⟨e, he, h⟩
      · exact (hstr _ (hf.names p hp)).1 x h
      · exact hspan _ x h
      · exact hspan _ x h
      · exact hspan _ x h
      · exact hnum _ x h
      · exact hnum _ x h
    · exact hnum _ x h
    · exact hspan _ x h
    · exact hnum _ x h
    · simp only [initB, List.mem_append, List.mem_cons] at h
      rcases h with h | h | h | h | h | h | h
      · exact hnum _ x h
      · exact hnum _ x h
      · exact hnum _ x h
      · subst h; split <;> omega
      · exact hnum _ x h
      · exact hnum _ x h
      · exact hnum _ x h
    · exact hnum _ x h
    · exact hnum _ x h
    · exact hnum _ x h
    · exact hn.bytes256 x h
  · simp only [encI, List.length_append, num4_length]
    have : himg.length = 4 := rfl
    omega
  · simp only [encI, List.length_append, num4_length]
    have : himg.length = 4 := rfl
    omega
end Go.Proofs.YtmcbeclkocjlkaaDoor
