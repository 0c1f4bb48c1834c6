/- A range over a function whose iterator keeps a cell of its own: the rounds by a state of the prover's, the iterator's walk over what stands between two of them. -/
import Derived.Test.YteddflbidafebaaGreatDoorGBase
import Derived.RangeFuncNested
import Derived.RangeFuncBound
import Derived.RangeFuncCalls
import Derived.RangeFuncLeaves
namespace Go.Proofs.YteddflbidafebaaGreatDoor
set_option linter.unusedVariables false
set_option linter.unusedSimpArgs false
open Go Go.RowKit
section
variable {F : Fence} {n : Nat} {P : Program} {σ : Type}
/-- The loop's record and the block of its rounds' deferred calls. -/
def RecAt (D : Nat) (L : Loop) (W : World) : Prop := W.heap[D + 1]? = some (.loop L) ∧ W.heap[D]? = some (.deferred (some []))
theorem RecAt.put {D : Nat} {L L' : Loop} {W : World} (h : RecAt D L W) : RecAt D L' (W.putObj (D + 1) (.loop L')) :=
  ⟨World.putObj_heap_same (Array.getElem?_eq_some_iff.1 h.1).1, (World.putObj_heap_other (by omega)).trans h.2⟩
theorem RecAt.others {D : Nat} {L : Loop} {W W' : World} (h : RecAt D L W) (k : KeepsOthers W W') : RecAt D L W' := ⟨k.same _ _ h.1 rfl, k.same _ _ h.2 rfl⟩
/-- How a round's body may end: on, in a state that follows; out, by a return. -/
def rangeP (J : σ → World → Prop) (Nx : σ → Value → σ → Prop) (X : World → Prop) (s : σ) (v : Value) (W : World) : Exit → Act → World → Prop
  | .normal, _, W' => KeepsOthers W W' ∧ ∃ s', Nx s v s' ∧ J s' W'
  | .ret, _, W' => KeepsOthers W W' ∧ X W'
  | _, _, _ => False
/-- What a round tells the iterator. -/
def roundR (J : σ → World → Prop) (Nx : σ → Value → σ → Prop) (T Tx : World → Prop) (s : σ) (v : Value) (e : Ending) (W' : World) : Prop :=
  (e = .returned (.bool true) ∧ ∃ s', Nx s v s' ∧ J s' W' ∧ T W') ∨ (e = .returned (.bool false) ∧ Tx W')
/-- The iterator, whatever stands beside its own cell. -/
def IterC (F : Fence) (n : Nat) (P : Program) (gf l : Nat) (lb : Array Value) (own : World → World → Prop) (J : σ → World → Prop) (JY : σ → Value → World → Prop) (Nx : σ → Value → σ → Prop) (Done : σ → Prop) (s0 : σ) (W1 : World) : Prop :=
  ∀ (T Tx : World → Prop), (∀ A B, T A → own A B → T B) → (∀ s v W, JY s v W → T W → YieldAt F (n - 1) P l #[v] W (roundR J Nx T Tx s v)) → J s0 W1 → T W1 →
    CallsIn F n P gf (#[.func (.yield l) #[] #[]] ++ lb) W1 fun e W2 => (∃ v, e = .returned v) ∧ ((∃ s, Done s ∧ J s W2 ∧ T W2) ∨ Tx W2)
theorem range_cells {g : Operand} {p : Tmp} {assign body : Code} {Q : Exit → Act → World → Prop} {a : Act} {w : World}
    (hro : F.round = none) (h1 : 1 ≤ n) {gf : Nat} {lb : Array Value} (hg : a.eval g = .func (.func gf) #[] lb) (hFg : F.fn gf) (eg : ∀ args w, (callFunc gf args).run P w = .ok (.enter gf args) w)
    (own : World → World → Prop) (hown : ∀ A B, own A B → KeepsOthers A B)
    (J : σ → World → Prop) (JY : σ → Value → World → Prop) (Nx : σ → Value → σ → Prop) (X : World → Prop) (Done : σ → Prop) (s0 : σ)
    (hJp : ∀ s W L, J s W → J s (W.putObj (w.heap.size + 1) (.loop L))) (hYp : ∀ s v W L, JY s v W → JY s v (W.putObj (w.heap.size + 1) (.loop L))) (hXp : ∀ W L, X W → X (W.putObj (w.heap.size + 1) (.loop L)))
    (h0 : ∀ L, J s0 ((w.alloc (.deferred (some []))).alloc (.loop L)))
    (a₁ : Value → Act)
    (hassign : ∀ (v : Value) (W : World) (K : Act → World → Prop), K (a₁ v) W → assign.wpIn (F.inRound (w.heap.size + 1)) (n - 1 - 1) P (Exit.then K (fun _ _ _ => False)) { tmps := ((#[p] : Array Tmp).zip #[v]).foldl (fun t (p, v) => t.setIfInBounds p v) a.tmps, defers := [] } W)
    (hbody : ∀ (s : σ) (v : Value) (W : World), JY s v W → body.wpIn (F.inRound (w.heap.size + 1)) (n - 1 - 1) P (rangeP J Nx X s v W) (a₁ v) W)
    (hiter : ∀ W1, IterC F (n - 1) P gf (w.heap.size + 1) lb own J JY Nx Done s0 W1)
    (hdone : ∀ (s : σ) (W : World), Done s → J s W → W.heap[w.heap.size]? = some (.deferred (some [])) → Q .normal { a with defers := { target := .collected w.heap.size, args := #[] } :: a.defers } W)
    (hleft : ∀ (W : World), X W → W.heap[w.heap.size]? = some (.deferred (some [])) → Code.ret.wpIn F n P Q { a with defers := { target := .collected w.heap.size, args := #[] } :: a.defers } W) :
    (Code.rangeFunc g #[p] assign body).wpIn F n P Q a w := by
  refine wpIn_rangeFunc fun fn hfn => ?_
  rw [hro]
  let L0 : Loop := { state := .ready, pending := none, fn, tmps := a.tmps, params := #[p], assign, body, defers := w.heap.size }
  let W1 := (w.alloc (.deferred (some []))).alloc (.loop L0)
  have hR1 : RecAt w.heap.size L0 W1 := by
    constructor
    · have := World.alloc_heap_new (w.alloc (.deferred (some []))) (.loop L0)
      rwa [World.size_alloc] at this
    · exact (Below.heap_alloc _ _ _ (by simp)).trans (World.alloc_heap_new w _)
  refine ⟨w.heap.size + 1, _, W1, { target := .fn (.func gf) lb, args := #[.func (.yield (w.heap.size + 1)) #[] #[]] }, W1, gf, #[.func (.yield (w.heap.size + 1)) #[] #[]] ++ lb, W1, run_enterLoop_outer _ _ _ _ _, ?_, ?_, ?_, fun _ => h1, ?_⟩
  · simp only [resolve, hg]
    simp [go_sem]
  · intro f' hf'; simp [Target.leads] at hf'; subst hf'; exact hFg
  · simp [invoke, go_sem, eg]
  refine (hiter W1 (fun W => RecAt w.heap.size L0 W) (fun W => X W ∧ RecAt w.heap.size { L0 with state := .done, pending := some .ret } W) (fun A B hA hAB => hA.others (hown A B hAB)) ?_ (h0 _) hR1).mono ?_
  · -- one round
    intro s v W hs hR
    refine ⟨fn, _, assign, body, run_yield (args := #[v]) hR.1 rfl, roundIn_of_wpIn hfn ?_⟩
    refine hassign v W (fun a₁ w₁ => ∃ w₂, (Instr.beginRound (w.heap.size + 1)).run P w₁ = .ok () w₂ ∧ body.wpIn (F.inRound (w.heap.size + 1)) (n - 1 - 1) P (roundPost P (w.heap.size + 1) (roundR J Nx (fun W => RecAt w.heap.size L0 W) (fun W => X W ∧ RecAt w.heap.size { L0 with state := .done, pending := some .ret } W) s v)) a₁ w₂) ⟨_, run_beginRound hR.1 rfl, ?_⟩
    have hRb : RecAt w.heap.size { L0 with state := .busy } (W.putObj (w.heap.size + 1) (.loop { L0 with state := .busy })) := hR.put
    refine wpIn_mono (hbody s v _ (hYp s v W _ hs)) ?_
    rintro e a3 W3 hp
    cases e with
    | normal =>
      obtain ⟨hk, s', hn, hj⟩ := hp
      have h3 := hRb.others hk
      exact ⟨_, _, run_endRound none h3.1, .inl ⟨rfl, s', hn, hJp s' W3 _ hj, h3.put⟩⟩
    | ret =>
      obtain ⟨hk, hx⟩ := hp
      have h3 := hRb.others hk
      exact ⟨_, _, run_endRound (some .ret) h3.1, .inr ⟨rfl, hXp W3 _ hx, h3.put⟩⟩
    | exit id => exact hp.elim
    | goto t => exact hp.elim
    | panic ch => exact hp.elim
    | outgrown => exact hp.elim
  · -- behind the iterator
    rintro e W2 ⟨⟨v, rfl⟩, ⟨s, hd, hj, hR⟩ | ⟨hx, hR⟩⟩
    · exact ⟨none, _, run_endLoop hR.1 (by simp [L0]), hdone s _ hd (hJp s W2 _ hj) ((World.putObj_heap_other (by omega)).trans hR.2)⟩
    · exact ⟨some .ret, _, run_endLoop hR.1 (by simp), hleft _ (hXp W2 _ hx) ((World.putObj_heap_other (by omega)).trans hR.2)⟩
end
end Go.Proofs.YteddflbidafebaaGreatDoor
