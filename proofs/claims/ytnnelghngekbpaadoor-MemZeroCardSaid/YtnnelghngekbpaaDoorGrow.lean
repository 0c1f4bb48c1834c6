/- A region that draws its order and whose operations each yield one value, whichever of the worlds it may meet it meets: it goes through in the order of the text. What the worlds keep is a predicate I of the prover's; calls that make memory are let. -/
import Derived.Orders
import Derived.StillTail
import Derived.WalkKit
namespace Go.Proofs.YtnnelghngekbpaaDoor
set_option linter.unusedVariables false
set_option linter.unusedSimpArgs false
open Go Go.RowKit
section
variable {P : Program} {ops : Array Oper} {md : Region.Mode} {I : World → Prop}

/-- The operation's outcome is the value v, and a world that I holds of. -/
def Yes (P : Program) (I : World → Prop) (v : Value) : Result Next → Prop
  | .ok (.value u) W => u = v ∧ I W
  | .ok .skip W => v = undef ∧ I W
  | .ok (.enter f args) W => Calls P f args W fun e W' => e = .returned v ∧ I W'
  | _ => False
theorem Yes_value (u v : Value) (W : World) : Yes P I v (.ok (.value u) W) = (u = v ∧ I W) := rfl
theorem Yes_skip (v : Value) (W : World) : Yes P I v (.ok .skip W) = (v = undef ∧ I W) := rfl
theorem Yes_enter (v : Value) (f : FuncId) (args : Array Value) (W : World) : Yes P I v (.ok (.enter f args) W) = Calls P f args W fun e W' => e = .returned v ∧ I W' := rfl
theorem yes_enter {v : Value} {f : FuncId} {args : Array Value} {W : World} (h : Calls P f args W fun e W' => e = .returned v ∧ I W') : Yes P I v (.ok (.enter f args) W) := h
/-- Asked for: in every world of I it yields v; not asked for: nothing. -/
def Sure (P : Program) (ops : Array Oper) (I : World → Prop) (o : Oper) (v : Value) (a : Act) : Prop :=
  (Region.wanted o (yielded ops a.tmps) = true ∧ ∀ W, I W → Yes P I v ((execOp a.eval o).run P W)) ∨ (Region.wanted o (yielded ops a.tmps) = false ∧ v = undef)
theorem Sure.far {o : Oper} {v : Value} {a : Act} (hs : ∀ cs b, o.op ≠ .select cs b) {d : Option Tmp} {u : Value} (h : ∀ x, d = some x → x ∉ o.looksAt ops) :
    Sure P ops I o v (a.put d u) ↔ Sure P ops I o v a := by
  unfold Sure
  rw [execOp_put o hs a d u h, wanted_put o a d u h]
/-- One operation, by its number. -/
def one (P : Program) (ops : Array Oper) (I : World → Prop) (i : Nat) (K : Act → Prop) (a : Act) : Prop :=
  match ops[i]? with
  | none => K a
  | some o => ∃ v, Sure P ops I o v a ∧ K (a.put o.dst v)
theorem one_some {i : Nat} {o : Oper} {K : Act → Prop} {a : Act} (h : ops[i]? = some o) : one P ops I i K a = ∃ v, Sure P ops I o v a ∧ K (a.put o.dst v) := by
  simp only [one, h]
/-- Every order. -/
def every (P : Program) (md : Region.Mode) (ops : Array Oper) (I : World → Prop) (Q : Act → Prop) : Nat → Array Bool → Act → Prop
  | 0, listed, a => Region.ready md ops listed = [] ∧ Q a
  | fuel + 1, listed, a => (Region.ready md ops listed = [] → Q a) ∧ ∀ i ∈ Region.ready md ops listed, one P ops I i (every P md ops I Q fuel (listed.setIfInBounds i true)) a
/-- The order of the text. -/
def inText (P : Program) (ops : Array Oper) (I : World → Prop) (Q : Act → Prop) : List Oper → Act → Prop
  | [], a => Q a
  | o :: rest, a => ∃ v, Sure P ops I o v a ∧ inText P ops I Q rest (a.put o.dst v)

theorem oper_of_sure {o : Oper} {v : Value} {a : Act} {W : World} {K : Act → World → Prop} {Q : Exit → Act → World → Prop} (h : Yes P I v ((execOp a.eval o).run P W))
    (hK : ∀ W', I W' → K (a.put o.dst v) W') : o.wp P a W K Q := by
  unfold Oper.wp
  generalize (execOp a.eval o).run P W = r at h ⊢
  cases r with
  | halt x W' => exact h.elim
  | ok n W' =>
    cases n
    case value u => obtain ⟨rfl, hI⟩ := h; exact hK _ hI
    case skip => obtain ⟨rfl, hI⟩ := h; exact hK _ hI
    case enter f args =>
      simp only [Oper.upon]
      refine Calls.mono (show Calls P f args W' _ from h) ?_
      rintro e W'' ⟨rfl, hI⟩
      exact hK _ hI
    all_goals exact h.elim
theorem every_sound {Q : Act → Prop} {Q' : Exit → Act → World → Prop} (hQ : ∀ a W, Q a → I W → Q' .normal a W) :
    ∀ (fuel : Nat) (listed : Array Bool) (a : Act) (W : World), I W → every P md ops I Q fuel listed a → wpAny P md ops Q' fuel listed a W
  | 0, _, _, _, hI, h => ⟨h.1, hQ _ _ h.2 hI⟩
  | fuel + 1, listed, a, W, hI, h => by
    refine ⟨fun h0 => hQ _ _ (h.1 h0) hI, fun i hi => ?_⟩
    have h1 := h.2 i hi
    unfold one at h1
    unfold wpOp
    split at h1
    · rename_i ho
      simp only [ho]
      exact every_sound hQ fuel _ _ _ hI h1
    · rename_i o ho
      simp only [ho]
      obtain ⟨v, hs, hK⟩ := h1
      rcases hs with ⟨hw, hr⟩ | ⟨hw, rfl⟩
      · simp only [hw, if_true]
        exact .inl (oper_of_sure (hr W hI) fun W' hI' => every_sound hQ fuel _ _ _ hI' hK)
      · simp only [hw]
        exact every_sound hQ fuel _ _ _ hI hK
theorem one_mono {i : Nat} {a : Act} {K K' : Act → Prop} (h : ∀ a, K a → K' a) (hh : one P ops I i K a) : one P ops I i K' a := by
  unfold one at *
  split
  · rename_i ho; simp only [ho] at hh; exact h _ hh
  · rename_i o ho; simp only [ho] at hh; obtain ⟨v, hs, hk⟩ := hh; exact ⟨v, hs, h _ hk⟩
/-- Whichever of two operations apart goes first. -/
theorem one_swap {j : Nat} {oi oj : Oper} {v : Value} (hj : ops[j]? = some oj) (hap : oi.apart ops oj = true) (hsi : ∀ cs b, oi.op ≠ .select cs b) (hsj : ∀ cs b, oj.op ≠ .select cs b)
    {K : Act → Prop} {a : Act} (hy : Sure P ops I oi v a) (h : one P ops I j K (a.put oi.dst v)) : one P ops I j (fun a' => Sure P ops I oi v a' ∧ K (a'.put oi.dst v)) a := by
  obtain ⟨h1, h2, h3⟩ := Oper.apart_spec hap
  rw [one_some hj] at h ⊢
  obtain ⟨u, hu, hk⟩ := h
  exact ⟨u, (Sure.far hsj h1).1 hu, (Sure.far hsi h3).2 hy, by rw [← Act.put_comm a v u h2]; exact hk⟩
theorem every_first {Q : Act → Prop} {i : Nat} {oi : Oper} {v : Value} (hi : ops[i]? = some oi) (hsel : ∀ (j : Nat) (o : Oper) cs b, ops[j]? = some o → o.op ≠ .select cs b) :
    ∀ (fuel : Nat) (listed : Array Bool) (a : Act),
      (∀ j oj, ops[j]? = some oj → j ≠ i → listed.getD j true = false → (∀ e ∈ oj.after, Region.binds md e = true → e.on ≠ i) → oi.apart ops oj = true) →
      i ∈ Region.ready md ops listed → Sure P ops I oi v a → every P md ops I Q fuel (listed.setIfInBounds i true) (a.put oi.dst v) → every P md ops I Q (fuel + 1) listed a := by
  intro fuel
  induction fuel with
  | zero =>
    intro listed a _ hr hy H
    refine ⟨fun h => absurd hr (by rw [h]; exact List.not_mem_nil), fun j hj => ?_⟩
    by_cases hji : j = i
    · subst hji; rw [one_some hi]; exact ⟨v, hy, H⟩
    · have h0 := ready_mono hj hji
      rw [H.1] at h0
      exact absurd h0 List.not_mem_nil
  | succ fuel ih =>
    intro listed a hfree hr hy H
    refine ⟨fun h => absurd hr (by rw [h]; exact List.not_mem_nil), fun j hj => ?_⟩
    by_cases hji : j = i
    · subst hji; rw [one_some hi]; exact ⟨v, hy, H⟩
    · obtain ⟨hjun, oj, hoj, hall⟩ := mem_ready.1 hj
      have hnot : ∀ e ∈ oj.after, Region.binds md e = true → e.on ≠ i := by
        intro e he hb heq
        have ha := hall e he hb
        have h0 := (mem_ready.1 hr).1
        subst heq
        by_cases hlt : e.on < listed.size
        · simp [hlt] at h0 ha; rw [h0] at ha; cases ha
        · simp [hlt] at h0
      refine one_mono ?_ (one_swap hoj (hfree j oj hoj hji hjun hnot) (fun cs b => hsel i oi cs b hi) (fun cs b => hsel j oj cs b hoj) hy (H.2 j (ready_mono hj hji)))
      rintro a' ⟨hy', hK⟩
      refine ih (listed.setIfInBounds j true) a' (fun k ok hk hki hun hno => hfree k ok hk hki ?_ hno) (ready_mono hr (Ne.symm hji)) hy' (by rw [Array.setIfInBounds_comm _ _ hji]; exact hK)
      by_cases hjk : j = k
      · subst hjk; exact hjun
      · rwa [getD_set_ne true hjk] at hun
theorem every_text {Q : Act → Prop} (hs : Region.noSelect ops = true) : ∀ (l : List Oper) (k : Nat) (listed : Array Bool) (a : Act), (∀ j, l[j]? = ops[k + j]?) →
    Region.lexFrom md ops l.length k listed = true → inText P ops I Q l a → every P md ops I Q l.length listed a
  | [], _, _, _, _, hB, h => ⟨by simpa [Region.lexFrom] using hB, h⟩
  | o :: l, k, listed, a, hl, hB, h => by
    have h0 : ops[k]? = some o := by simpa using (hl 0).symm
    simp only [List.length_cons, Region.lexFrom, Bool.and_eq_true] at hB
    obtain ⟨⟨hr, hf⟩, hB'⟩ := hB
    obtain ⟨v, hy, hK⟩ := h
    refine every_first h0 (Region.noSelect_spec hs) l.length listed a (Region.free_spec h0 hf) (by simpa using hr) hy ?_
    refine every_text hs l (k + 1) _ _ (fun j => ?_) hB' hK
    have := hl (j + 1)
    simpa [Nat.add_assoc, Nat.add_comm 1 j] using this
/-- THE LAW. -/
theorem region_grows {id : Nat} {Q : Exit → Act → World → Prop} {a : Act} {w : World} {l : List Oper} (I : World → Prop) (hm : P.follows .mixedOrders = true) (hB : Region.lexB .any l.toArray = true)
    (hI : I w.drew) (h : inText P l.toArray I (fun a' => ∀ W, I W → Q .normal a' W) l a) : (Code.region id l.toArray true).wp P Q a w := by
  simp only [Region.lexB, Bool.and_eq_true] at hB
  refine wp_region_any hm (every_sound (I := I) (Q := fun a' => ∀ W, I W → Q .normal a' W) (fun a W h hI => h W hI) _ _ _ _ hI ?_)
  have := every_text (md := .any) (P := P) (I := I) (Q := fun a' => ∀ W, I W → Q .normal a' W) hB.1 l 0 (Array.replicate l.toArray.size false) a (by simp) (by simpa using hB.2) h
  simpa using this
theorem text_end {Q : Act → Prop} {a : Act} (h : Q a) : inText P ops I Q [] a := h
theorem text_step {Q : Act → Prop} {a : Act} {o : Oper} {rest : List Oper} {v : Value} (hw : Region.wanted o (yielded ops a.tmps) = true) (hr : ∀ W, I W → Yes P I v ((execOp a.eval o).run P W))
    (h : inText P ops I Q rest (a.put o.dst v)) : inText P ops I Q (o :: rest) a := ⟨v, .inl ⟨hw, hr⟩, h⟩
theorem text_pass {Q : Act → Prop} {a : Act} {o : Oper} {rest : List Oper} (hw : Region.wanted o (yielded ops a.tmps) = false)
    (h : inText P ops I Q rest (a.put o.dst undef)) : inText P ops I Q (o :: rest) a := ⟨undef, .inr ⟨hw, rfl⟩, h⟩

/-! ### A tail that goes last, in its order: a store into the result's cell, an append -/
def headG (P : Program) (md : Region.Mode) (ops : Array Oper) (I : World → Prop) (n : Nat) (L : Array Bool → Act → Prop) : Nat → Array Bool → Act → Prop
  | 0, listed, a => L listed a
  | f + 1, listed, a => Region.ready md ops listed ≠ [] ∧ ∀ i ∈ Region.ready md ops listed, i < n ∧ one P ops I i (headG P md ops I n L f (listed.setIfInBounds i true)) a
theorem wpOp_of_one {Q : Exit → Act → World → Prop} {i : Nat} {K : Act → Prop} {K' : Act → World → Prop} {a : Act} {W : World} (hI : I W) (h : one P ops I i K a) (hK : ∀ a' W', I W' → K a' → K' a' W') :
    wpOp P ops Q i K' a W := by
  unfold one at h
  unfold wpOp
  split at h
  · rename_i ho
    simp only [ho]
    exact hK _ _ hI h
  · rename_i o ho
    simp only [ho]
    obtain ⟨v, hs, hk⟩ := h
    rcases hs with ⟨hw, hr⟩ | ⟨hw, rfl⟩
    · simp only [hw, if_true]
      exact .inl (oper_of_sure (hr W hI) fun W' hI' => hK _ _ hI' hk)
    · simp only [hw]
      exact hK _ _ hI hk
theorem headG_sound {n g : Nat} {L : Array Bool → Act → Prop} {Q : Exit → Act → World → Prop} (hL : ∀ listed a W, I W → L listed a → wpAny P md ops Q g listed a W) :
    ∀ (f : Nat) (listed : Array Bool) (a : Act) (W : World), I W → headG P md ops I n L f listed a → wpAny P md ops Q (f + g) listed a W
  | 0, listed, a, W, hI, h => by rw [Nat.zero_add]; exact hL _ _ _ hI h
  | f + 1, listed, a, W, hI, h => by
    rw [show f + 1 + g = (f + g) + 1 by omega]
    exact ⟨fun h0 => absurd h0 h.1, fun i hi => wpOp_of_one hI (h.2 i hi).2 fun a' W' hI' h' => headG_sound hL f _ a' W' hI' h'⟩
theorem headG_first {n i : Nat} {oi : Oper} {v : Value} {L : Array Bool → Act → Prop} (hi : ops[i]? = some oi) (hsel : ∀ (j : Nat) (o : Oper) cs b, ops[j]? = some o → o.op ≠ .select cs b)
    (hs : Region.sinkB md ops n = true) (hc : Region.chainB md ops n = true) (hn : n < ops.size) (hin : i < n) (hdone : ∀ listed a, L listed a → ∀ j ∈ Region.ready md ops listed, n ≤ j) :
    ∀ (f : Nat) (listed : Array Bool) (a : Act), HeadInv md ops n listed →
      (∀ j oj, ops[j]? = some oj → j ≠ i → listed.getD j true = false → (∀ e ∈ oj.after, Region.binds md e = true → e.on ≠ i) → oi.apart ops oj = true) →
      i ∈ Region.ready md ops listed → Sure P ops I oi v a → headG P md ops I n L f (listed.setIfInBounds i true) (a.put oi.dst v) → headG P md ops I n L (f + 1) listed a := by
  intro f
  induction f with
  | zero =>
    intro listed a inv _ hr hy H
    refine ⟨List.ne_nil_of_mem hr, fun j hj => ?_⟩
    have hjn : j < n := Nat.lt_of_not_le fun h => tail_waits hs hc hn inv _ i rfl hin (mem_ready.1 hr).1 j h hj
    refine ⟨hjn, ?_⟩
    by_cases hji : j = i
    · subst hji; rw [one_some hi]; exact ⟨v, hy, H⟩
    · have := hdone _ _ H j (ready_mono hj hji)
      omega
  | succ f ih =>
    intro listed a inv hfree hr hy H
    have hun := (mem_ready.1 hr).1
    refine ⟨List.ne_nil_of_mem hr, fun j hj => ?_⟩
    have hjn : j < n := Nat.lt_of_not_le fun h => tail_waits hs hc hn inv _ i rfl hin hun j h hj
    refine ⟨hjn, ?_⟩
    by_cases hji : j = i
    · subst hji; rw [one_some hi]; exact ⟨v, hy, H⟩
    · obtain ⟨hjun, oj, hoj, hall⟩ := mem_ready.1 hj
      have hnot : ∀ e ∈ oj.after, Region.binds md e = true → e.on ≠ i := by
        intro e he hb heq
        have ha := hall e he hb
        rw [heq, getD_both hun] at ha
        cases ha
      refine one_mono ?_ (one_swap hoj (hfree j oj hoj hji hjun hnot) (fun cs b => hsel i oi cs b hi) (fun cs b => hsel j oj cs b hoj) hy (H.2 j (ready_mono hj hji)).2)
      rintro a' ⟨hy', hK⟩
      refine ih (listed.setIfInBounds j true) a' (inv.set hj hjn) (fun k ok hk hki hu hno => hfree k ok hk hki ?_ hno) (ready_mono hr (Ne.symm hji)) hy' (by rw [Array.setIfInBounds_comm _ _ hji]; exact hK)
      by_cases hjk : j = k
      · subst hjk; exact hjun
      · rwa [getD_set_ne true hjk] at hu
theorem headG_text {n g : Nat} {T : Act → Prop} (hsel : Region.noSelect ops = true) (hs : Region.sinkB md ops n = true) (hc : Region.chainB md ops n = true) (hn : n < ops.size) :
    ∀ (l : List Oper) (k : Nat) (listed : Array Bool) (a : Act), (∀ j, j < l.length → l[j]? = ops[k + j]?) → k + l.length = n → HeadInv md ops n listed →
    Region.lexHead md ops g l.length k listed = true → inText P ops I T l a → headG P md ops I n (fun listed' a' => Region.seqB md ops g n listed' = true ∧ T a') l.length listed a
  | [], k, listed, a, _, hk, _, hB, h => by
    have hkn : k = n := by simpa using hk
    subst hkn
    exact ⟨by simpa [Region.lexHead] using hB, h⟩
  | o :: l, k, listed, a, hl, hk, inv, hB, h => by
    have h0 : ops[k]? = some o := by simpa using (hl 0 (by simp)).symm
    simp only [List.length_cons, Region.lexHead, Bool.and_eq_true] at hB
    obtain ⟨⟨hr, hf⟩, hB'⟩ := hB
    simp only [List.length_cons] at hk
    have hkn : k < n := by omega
    have hr' : k ∈ Region.ready md ops listed := by simpa using hr
    obtain ⟨v, hy, hK⟩ := h
    refine headG_first h0 (Region.noSelect_spec hsel) hs hc hn hkn (fun listed' a' hL => seqB_ready hL.1) l.length listed a inv (Region.free_spec h0 hf) hr' hy ?_
    refine headG_text hsel hs hc hn l (k + 1) _ _ (fun j hj => ?_) (by omega) (inv.set hr' hkn) hB' hK
    have := hl (j + 1) (by simp; omega)
    simpa [Nat.add_assoc, Nat.add_comm 1 j] using this
/-- THE LAW, with a tail. -/
theorem region_grows_tail {id : Nat} {Q : Exit → Act → World → Prop} {a : Act} {w : World} {l : List Oper} (n : Nat) (I : World → Prop) (hm : P.follows .mixedOrders = true) (hB : Region.lexTailB .any l.toArray n = true)
    (hI : I w.drew) (h : inText P l.toArray I (fun a' => ∀ W, I W → wpList P l.toArray Q (l.drop n) a' W) (l.take n) a) : (Code.region id l.toArray true).wp P Q a w := by
  simp only [Region.lexTailB, Bool.and_eq_true, decide_eq_true_eq] at hB
  obtain ⟨⟨⟨⟨hsel, hn⟩, hs⟩, hc⟩, hlex⟩ := hB
  have hn' : n < l.length := by simpa using hn
  have htl : (l.take n).length = n := by simp; omega
  have hdl : (l.drop n).length = l.toArray.size - n := by simp
  have inv0 : HeadInv .any l.toArray n (Array.replicate l.toArray.size false) :=
    ⟨by simp, fun j oj _ hl => absurd hl (by rw [getD_replicate_false]; decide), fun t _ ht => getD_in (by simpa using ht) (getD_replicate_false _ _)⟩
  have H := headG_text (md := .any) (P := P) (I := I) (g := l.toArray.size - n) hsel hs hc hn (l.take n) 0 _ a
    (fun j hj => by rw [htl] at hj; simp [hj]) (by simpa using htl) inv0 (by rw [htl]; exact hlex) h
  refine wp_region_any hm ?_
  have R := headG_sound (md := .any) (Q := Q) (g := l.toArray.size - n) (fun listed a' W hI' hL => by
    have := wpAny_of_seq (md := .any) (Q' := Q) (l.drop n) n listed a' W (fun j => by simp [List.getElem?_drop]) (by rw [hdl]; exact hL.1) (hL.2 W hI')
    rwa [hdl] at this) _ _ _ _ hI H
  rw [htl, show n + (l.toArray.size - n) = l.toArray.size by omega] at R
  exact R
end
end Go.Proofs.YtnnelghngekbpaaDoor
