/- Constants of the assembler, plain: a reckoning of any words, with fuel; what it answers is so. -/
import Derived.Test.YtockkidbncpdlaaDoorEvTab
namespace Go.Proofs.YtockkidbncpdlaaDoor
set_option linter.unusedVariables false
set_option linter.unusedSimpArgs false
open Go.RowKit
def evF (L : List Tok) (N : List (ByteArray × Int)) : Nat → EvM → Nat → Option EvR
  | 0, _, _ => none
  | f + 1, .lev k at_, d =>
    if k = 6 then evF L N f (.un at_) d else
    if 6 < k then none else
    match evF L N f (.lev (k + 1) at_) d with
    | none => none
    | some (.bad p e) => some (.bad p e)
    | some (.ok n p) => evF L N f (.chain k n p) d
  | f + 1, .chain k n p, d =>
    match signAt L p (lvS k) with
    | none => some (.ok n p)
    | some s =>
      match evF L N f (.lev (k + 1) (p + 1)) d with
      | none => none
      | some (.bad q e) => some (.bad q e)
      | some (.ok m q) =>
        match joinE s n m with
        | none => some (.bad p 14)
        | some x => evF L N f (.chain k x q) d
  | f + 1, .un at_, d =>
    match signAt L at_ unS with
    | none =>
      match L[at_]? with
      | none => some (.bad at_ 11)
      | some t => if t.kind = 2 ∨ t.kind = 1 then some (atomE N t at_) else some (.bad at_ 11)
    | some s =>
      if 16 < d then some (.bad at_ 15) else
      if s = sOpen then
        match evF L N f (.lev 0 (at_ + 1)) (d + 1) with
        | none => none
        | some (.bad q e) => some (.bad q e)
        | some (.ok n p) => match signAt L p [sShut] with
          | none => some (.bad p 11)
          | some _ => some (.ok n (p + 1))
      else
        match evF L N f (.un (at_ + 1)) (d + 1) with
        | none => none
        | some (.bad q e) => some (.bad q e)
        | some (.ok n p) => match boundE (preE s n) with
          | none => some (.bad at_ 14)
          | some x => some (.ok x p)
theorem evF_is {L : List Tok} {N : List (ByteArray × Int)} : ∀ (f : Nat) (m : EvM) (d : Nat) (r : EvR), evF L N f m d = some r → Ev L N m d r := by
  intro f
  induction f with
  | zero => intro m d r h; simp [evF] at h
  | succ f ih =>
    intro m d r h
    cases m with
    | lev k at_ =>
      unfold evF at h
      split at h
      · rename_i hk; subst hk; exact .top (ih _ _ _ h)
      · split at h
        · cases h
        · have hk : k < 6 := by omega
          split at h
          · cases h
          · rename_i p e he; cases h; exact .levBad hk (ih _ _ _ he)
          · rename_i n p he; exact .levOk hk (ih _ _ _ he) (ih _ _ _ h)
    | chain k n p =>
      unfold evF at h
      split at h
      · rename_i hs; cases h; exact .stop hs
      · rename_i s hs
        split at h
        · cases h
        · rename_i q e he; cases h; exact .chBad hs (ih _ _ _ he)
        · rename_i m q he
          split at h
          · rename_i hj; cases h; exact .chOver hs (ih _ _ _ he) hj
          · rename_i x hj; exact .chGo hs (ih _ _ _ he) hj (ih _ _ _ h)
    | un at_ =>
      unfold evF at h
      split at h
      · rename_i hs
        split at h
        · rename_i hl; cases h; exact .form hs (fun t ht => by rw [hl] at ht; cases ht)
        · rename_i t ht
          split at h
          · rename_i hk; cases h; exact .atom ht hk
          · rename_i hk; cases h; exact .form hs (fun u hu => by rw [ht] at hu; cases hu; omega)
      · rename_i s hs
        split at h
        · rename_i hd; cases h; exact .long hs hd
        · rename_i hd
          have hd : d ≤ 16 := by omega
          split at h
          · rename_i ho
            subst ho
            split at h
            · cases h
            · rename_i q e he; cases h; exact .parBad hs hd (ih _ _ _ he)
            · rename_i n p he
              split at h
              · rename_i hz; cases h; exact .parForm hs hd (ih _ _ _ he) hz
              · rename_i z hz; cases h; exact .par hs hd (ih _ _ _ he) hz
          · rename_i ho
            split at h
            · cases h
            · rename_i q e he; cases h; exact .negBad hs ho hd (ih _ _ _ he)
            · rename_i n p he
              split at h
              · rename_i hz; cases h; exact .negOver hs ho hd (ih _ _ _ he) hz
              · rename_i z hz; cases h; exact .neg hs ho hd (ih _ _ _ he) hz
end Go.Proofs.YtockkidbncpdlaaDoor
