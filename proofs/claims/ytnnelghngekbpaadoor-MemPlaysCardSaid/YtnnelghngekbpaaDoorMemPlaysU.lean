/- MemPlays: what each call does to both memories, in the same words. -/
import Derived.Test.YtnnelghngekbpaaDoorMemSame
import Derived.Test.YtnnelghngekbpaaDoorActData
import Derived.Test.YtnnelghngekbpaaDoorCapOf
import Derived.Laws.StructEq
import Derived.Deep.OwnRows
namespace Go.Proofs.YtnnelghngekbpaaDoor
set_option linter.unusedVariables false
set_option linter.unusedSimpArgs false
open Go.RowKit
def sizeOk (size : Int) : Bool := decide (16 ≤ size) && decide (size ≤ 65536) && decide (size % 16 = 0)
/-- Where a play stands: both memories hold the same, apart from each other and from what was there. -/
structure PInv (W w : World) (p gb gt N M dm : Nat) (O : Nat → Prop) (bs : List Int) (ts : List Bool) : Prop where
  d : DMem w dm O bs ts
  r : RMem w p gb gt N M bs ts
  len : bs.length = N
  own : ∀ z, O z → W.heap.size ≤ z ∧ z ≠ p ∧ z ≠ gb ∧ z ≠ gt
  bnd : W.heap.size ≤ p ∧ W.heap.size ≤ gb ∧ W.heap.size ≤ gt
  kp : Keep W w
theorem PInv.keep {W w w' : World} {p gb gt N M dm : Nat} {O : Nat → Prop} {bs : List Int} {ts : List Bool} (h : PInv W w p gb gt N M dm O bs ts) (k : Keep w w') : PInv W w' p gb gt N M dm O bs ts :=
  { h with d := h.d.keep k, r := h.r.keep k, kp := h.kp.trans k }
/-- What a Store answers and leaves. -/
def storeV (L : Nat) (a n : Int) : Value := if reachB a n L = true then okV else rangeV a
def storeB (bs : List Int) (a : Int) (xs : List Int) : List Int := if reachB a xs.length bs.length = true then putAt bs a.toNat xs else bs
def storeT (L : Nat) (ts : List Bool) (a : Int) (n : Nat) : List Bool := if reachB a n L = true then offAt ts a.toNat n else ts
theorem storeB_length (bs : List Int) (a : Int) (xs : List Int) : (storeB bs a xs).length = bs.length := by unfold storeB; split <;> simp [putAt_length]
theorem dstore_u {w : World} {m : Nat} {O : Nat → Prop} {bs : List Int} {ts : List Bool} (a : Int) (ha : In64 a) (v : Value) (xs : List Int) (hx : ∀ z ∈ xs, IsByte z) (h : DMem w m O bs ts) (hv : Lies w v xs O) :
    Calls Tryd.prog 11 #[.pointer (some ⟨m, 0, none⟩), .int .i64 a, v] w fun e w' => ∃ u, e = .returned u ∧ ErrV w' u (storeV bs.length a xs.length) ∧ DMem w' m O (storeB bs a xs) (storeT bs.length ts a xs.length) ∧ KeepBut O w w' := by
  refine (dstore_any a ha v xs hx h hv).mono ?_
  rintro e w' ⟨u, rfl, h1⟩
  refine ⟨u, rfl, ?_⟩
  unfold storeV storeB storeT
  rcases h1 with ⟨hr, h2, h3⟩ | ⟨hr, rfl, h2, h3⟩
  · rw [hr]; exact ⟨h2, h.keep h3, h3.but _⟩
  · rw [hr]; exact ⟨.isOk, h2, h3⟩
theorem rstore_u (p gb gt cb ct : Nat) (bs : List Int) (ts : List Bool) (a : Int) (ha : In64 a) (v : Value) (xs : List Int) (hx : ∀ z ∈ xs, IsByte z) (hl : xs.length ≤ 9223372036854775807) (w : World) (h : RMem w p gb gt cb ct bs ts) (hv : Lies w v xs (ownsM gb gt)) :
    Calls Tryd.prog 12 #[.pointer (some ⟨p, 0, none⟩), .int .i64 a, v] w fun e w' => e = .returned (storeV bs.length a xs.length) ∧ RMem w' p gb gt cb ct (storeB bs a xs) (storeT bs.length ts a xs.length) ∧ KeepBut (ownsM gb gt) w w' := by
  refine (rstore_any p gb gt cb ct bs ts a ha v xs hx hl w h hv).mono ?_
  rintro e w' h1
  unfold storeV storeB storeT
  rcases h1 with ⟨hr, rfl, h3⟩ | ⟨hr, rfl, h2, h3⟩
  · rw [hr]; exact ⟨rfl, h.keep h3, h3.but _⟩
  · rw [hr]; exact ⟨rfl, h2, h3⟩
def capAt (L : Nat) (a : Int) : Prop := reachB a 16 L = true ∧ a % 16 = 0
instance (L : Nat) (a : Int) : Decidable (capAt L a) := by unfold capAt; infer_instance
def scapB (bs : List Int) (a b' p' a' m' y' : Int) : List Int := if capAt bs.length a then putAt bs a.toNat (putL b' p' a' m' y') else bs
def scapT (L : Nat) (ts : List Bool) (a : Int) (t : Bool) : List Bool := if capAt L a then ts.set (a.toNat / 16) t else ts
theorem scapB_length (bs : List Int) (a b' p' a' m' y' : Int) : (scapB bs a b' p' a' m' y').length = bs.length := by unfold scapB; split <;> simp [putAt_length]
theorem granV_ok {L : Nat} {a : Int} (h : capAt L a) : granV L a = okV := by unfold granV; rw [if_pos h.1, if_pos h.2]
theorem dstoreCap_u {w : World} {m : Nat} {O : Nat → Prop} {bs : List Int} {ts : List Bool} (a : Int) (ha : In64 a) (t : Bool) (b' p' a' m' y' : Int) (hb : 0 ≤ b' ∧ b' ≤ 4294967295) (hp : 0 ≤ p' ∧ p' ≤ 4294967295) (haa : 0 ≤ a' ∧ a' ≤ 4294967295) (hmm : 0 ≤ m' ∧ m' ≤ 65535) (hy : 0 ≤ y' ∧ y' ≤ 65535) (h : DMem w m O bs ts) (hE : ErrT w) :
    Calls Tryd.prog 13 #[.pointer (some ⟨m, 0, none⟩), .int .i64 a, .agg #[.bool t, .int .u32 b', .int .u32 p', .int .u32 a', .int .u16 m', .int .u16 y']] w fun e w' => ∃ u, e = .returned u ∧ ErrV w' u (granV bs.length a) ∧ DMem w' m O (scapB bs a b' p' a' m' y') (scapT bs.length ts a t) ∧ KeepBut O w w' := by
  refine (dstoreCap_any a ha t b' p' a' m' y' hb hp haa hmm hy h hE).mono ?_
  rintro e w' ⟨u, rfl, h1⟩
  refine ⟨u, rfl, ?_⟩
  unfold scapB scapT
  rcases h1 with ⟨hr, h2, h3⟩ | ⟨hr, rfl, h2, h3⟩
  · rw [if_neg (show ¬ capAt bs.length a from hr), if_neg (show ¬ capAt bs.length a from hr)]; exact ⟨h2, h.keep h3, h3.but _⟩
  · rw [if_pos (show capAt bs.length a from hr), if_pos (show capAt bs.length a from hr), granV_ok hr]; exact ⟨.isOk, h2, h3⟩
theorem rstoreCap_u (p gb gt cb ct : Nat) (bs : List Int) (ts : List Bool) (a : Int) (ha : In64 a) (t : Bool) (b' p' a' m' y' : Int) (hb : 0 ≤ b' ∧ b' ≤ 4294967295) (hp : 0 ≤ p' ∧ p' ≤ 4294967295) (haa : 0 ≤ a' ∧ a' ≤ 4294967295) (hmm : 0 ≤ m' ∧ m' ≤ 65535) (hy : 0 ≤ y' ∧ y' ≤ 65535) (w : World) (h : RMem w p gb gt cb ct bs ts) :
    Calls Tryd.prog 14 #[.pointer (some ⟨p, 0, none⟩), .int .i64 a, .agg #[.bool t, .int .u32 b', .int .u32 p', .int .u32 a', .int .u16 m', .int .u16 y']] w fun e w' => e = .returned (granV bs.length a) ∧ RMem w' p gb gt cb ct (scapB bs a b' p' a' m' y') (scapT bs.length ts a t) ∧ KeepBut (ownsM gb gt) w w' := by
  refine (rstoreCap_any p gb gt cb ct bs ts a ha t b' p' a' m' y' hb hp haa hmm hy w h).mono ?_
  rintro e w' h1
  unfold scapB scapT
  rcases h1 with ⟨hr, rfl, h3⟩ | ⟨hr, rfl, h2, h3⟩
  · rw [if_neg (show ¬ capAt bs.length a from hr), if_neg (show ¬ capAt bs.length a from hr)]; exact ⟨rfl, h.keep h3, h3.but _⟩
  · rw [if_pos (show capAt bs.length a from hr), if_pos (show capAt bs.length a from hr), granV_ok hr]; exact ⟨rfl, h2, h3⟩
/-- Both memories' blocks. -/
def Both (O : Nat → Prop) (gb gt : Nat) (z : Nat) : Prop := O z ∨ z = gb ∨ z = gt
theorem PInv.notBoth {W w : World} {p gb gt N M dm : Nat} {O : Nat → Prop} {bs : List Int} {ts : List Bool} (h : PInv W w p gb gt N M dm O bs ts) {z : Nat} (hz : w.heap.size ≤ z) : ¬ Both O gb gt z := by
  have h1 := h.r.bytes.lt
  have h2 := h.r.tags.lt
  rintro (h3 | rfl | rfl)
  · have := h.d.lt z h3; omega
  · omega
  · omega
theorem PInv.devTurn {W w w' : World} {p gb gt N M dm : Nat} {O : Nat → Prop} {bs : List Int} {ts : List Bool} (h : PInv W w p gb gt N M dm O bs ts) (k : KeepBut O w w') : RMem w' p gb gt N M bs ts ∧ Keep W w' ∧ KeepBut (Both O gb gt) w w' :=
  ⟨h.r.but k (fun hp => (h.own _ hp).2.1 rfl) (fun hp => (h.own _ hp).2.2.1 rfl) (fun hp => (h.own _ hp).2.2.2 rfl), h.kp.butNew k (fun z hz => (h.own z hz).1), k.mono (fun z _ hz => .inl hz)⟩
theorem PInv.refTurn {w w' : World} {gb gt dm : Nat} {O : Nat → Prop} {bs : List Int} {ts : List Bool} (hd : DMem w dm O bs ts) (ho : ∀ z, O z → z ≠ gb ∧ z ≠ gt) (k : KeepBut (ownsM gb gt) w w') : DMem w' dm O bs ts ∧ KeepBut (Both O gb gt) w w' :=
  ⟨hd.but k (fun b hb hm => hm.elim (ho b hb).1 (ho b hb).2), k.mono (fun z _ hz => .inr hz)⟩
theorem ErrV.butRef {w w' : World} {v wv : Value} {p gb gt cb ct : Nat} {bs : List Int} {ts : List Bool} (h : ErrV w v wv) (hr : RMem w p gb gt cb ct bs ts) (k : KeepBut (ownsM gb gt) w w') : ErrV w' v wv := by
  rcases h with h | ⟨q, part, at_, n, h1, h2, h3, h4⟩
  · exact .inl h
  · refine .inr ⟨q, part, at_, n, h1, h2, h3, h4.but k ?_⟩
    have c := h4.cells 0
    rintro (rfl | rfl)
    · rw [hr.bytes.cells] at c
      simp [u8s] at c
    · rw [hr.tags.cells] at c
      simp [bls] at c
theorem butWay (T : Nat → Prop) : Rel.Way (KeepBut T) := ⟨fun k => k.but _, fun h k => h.trans k⟩
theorem conv_nil (ad : Option Addr) (cs : Nat) (W : World) : (convert 35 9 (.slice ad 0 cs)).run Tryd.prog W = .ok (.string (strOfNums [])) W := by
  rw [run_convert_bytes_string W 35 9 5 ad 0 cs Tryd.underlying35 Tryd.underlying5 Tryd.underlying9]
  cases ad <;> (simp [Conv.bytesToString, loadCells, loadCellsFrom, strOfNums]; rfl)
theorem conv_lies {W : World} {v : Value} {xs : List Int} {S : Nat → Prop} (h : Lies W v xs S) : (convert 35 9 v).run Tryd.prog W = .ok (.string (strOfNums xs)) W := by
  obtain ⟨ad, cs, rfl, _, _, hc⟩ := h
  rcases Nat.eq_zero_or_pos xs.length with h0 | hp
  · have : xs = [] := List.eq_nil_of_length_eq_zero h0
    subst this
    exact conv_nil ad cs W
  · obtain ⟨b, off, rfl, _⟩ := hc 0 hp
    exact conv_at xs b off xs.length cs rfl W (fun i hi => by
      obtain ⟨b', off', e, _, _, hcell⟩ := hc i hi
      simp only [Option.some.injEq, Addr.mk.injEq, and_true] at e
      obtain ⟨rfl, rfl⟩ := e
      exact hcell)
def loadV (L : Nat) (a n : Int) : Value := if reachB a n L = true then okV else rangeV a
def loadL (bs : List Int) (a n : Int) : List Int := if reachB a n bs.length = true then (bs.drop a.toNat).take n.toNat else []
theorem dload_u {w : World} {m : Nat} {O : Nat → Prop} {bs : List Int} {ts : List Bool} (a n : Int) (ha : In64 a) (hn : In64 n) (h : DMem w m O bs ts) :
    Calls Tryd.prog 16 #[.pointer (some ⟨m, 0, none⟩), .int .i64 a, .int .i64 n] w fun e w' => ∃ s u, e = .returned (.tuple #[s, u]) ∧ ErrV w' u (loadV bs.length a n) ∧ Lies w' s (loadL bs a n) (fun k => k < w.heap.size) ∧ Keep w w' := by
  refine (dload_any a n ha hn h).mono ?_
  rintro e w' ⟨hk, s, u, rfl, h1⟩
  refine ⟨s, u, rfl, ?_⟩
  unfold loadV loadL
  rcases h1 with ⟨hr, h2, h3⟩ | ⟨hr, rfl, h3⟩
  · rw [hr]; exact ⟨h2, h3, hk⟩
  · rw [hr]; exact ⟨.isOk, h3, hk⟩
theorem rload_u (p gb gt cb ct : Nat) (bs : List Int) (ts : List Bool) (a n : Int) (ha : In64 a) (hn : In64 n) (w : World) (h : RMem w p gb gt cb ct bs ts) :
    Calls Tryd.prog 17 #[.pointer (some ⟨p, 0, none⟩), .int .i64 a, .int .i64 n] w fun e w' => ∃ s, e = .returned (.tuple #[s, loadV bs.length a n]) ∧ Lies w' s (loadL bs a n) (fun k => k < w.heap.size) ∧ Keep w w' := by
  refine (rload_any p gb gt cb ct bs ts a n ha hn w h).mono ?_
  rintro e w' h1
  unfold loadV loadL
  rcases h1 with ⟨hr, rfl, hk⟩ | ⟨hr, g, cap, rfl, ho, hk⟩
  · rw [hr]
    exact ⟨_, rfl, ⟨none, 0, rfl, by simp, by decide, fun k hk => by simp at hk⟩, hk⟩
  · rw [hr]
    obtain ⟨r0, r1, r2⟩ := reachB_true hr
    have hl : ((bs.drop a.toNat).take n.toNat).length = n.toNat := by simp; omega
    refine ⟨_, rfl, ?_, hk⟩
    rw [if_pos rfl]
    rcases Nat.eq_zero_or_pos n.toNat with h0 | hp
    · obtain ⟨_, h | ⟨g', cap', cur, hv, _, _, hn1, hcm, _⟩⟩ := ho
      · cases h.1
      · simp only [Value.slice.injEq, Option.some.injEq, Addr.mk.injEq, and_true, true_and] at hv
        obtain ⟨rfl, rfl⟩ := hv
        exact ⟨_, cap, by rw [hl], by omega, by unfold maxLen at hcm; omega, fun k hk => by omega⟩
    · obtain ⟨hc, h1, h2, h3, h4⟩ := own_cells ho hl hp
      exact ⟨_, cap, by rw [hl], by omega, by unfold maxLen at h2; omega, fun k hk => ⟨g, 0, rfl, by omega, h4, by rw [Nat.zero_add]; exact hc k (by omega)⟩⟩
def zeroB (bs : List Int) (a n : Int) : List Int := if reachB a n bs.length = true then putAt bs a.toNat (List.replicate n.toNat 0) else bs
def zeroT (L : Nat) (ts : List Bool) (a n : Int) : List Bool := if reachB a n L = true then offAt ts a.toNat n.toNat else ts
theorem zeroB_length (bs : List Int) (a n : Int) : (zeroB bs a n).length = bs.length := by unfold zeroB; split <;> simp [putAt_length]
theorem dzero_u {w : World} {m : Nat} {O : Nat → Prop} {bs : List Int} {ts : List Bool} (a n : Int) (ha : In64 a) (hn : In64 n) (h : DMem w m O bs ts) :
    Calls Tryd.prog 20 #[.pointer (some ⟨m, 0, none⟩), .int .i64 a, .int .i64 n] w fun e w' => ∃ u, e = .returned u ∧ ErrV w' u (loadV bs.length a n) ∧ DMem w' m O (zeroB bs a n) (zeroT bs.length ts a n) ∧ KeepBut O w w' := by
  refine (dzero_any a n ha hn h).mono ?_
  rintro e w' ⟨u, rfl, h1⟩
  refine ⟨u, rfl, ?_⟩
  unfold loadV zeroB zeroT
  rcases h1 with ⟨hr, h2, h3⟩ | ⟨hr, rfl, h2, h3⟩
  · rw [hr]; exact ⟨h2, h.keep h3, h3.but _⟩
  · rw [hr]; exact ⟨.isOk, h2, h3⟩
theorem store_zero (bs : List Int) (ts : List Bool) (a : Int) (Q : Nat) : storeV bs.length a (List.replicate Q (0 : Int)).length = loadV bs.length a (Q : Int) ∧ storeB bs a (List.replicate Q 0) = zeroB bs a (Q : Int) ∧ storeT bs.length ts a (List.replicate Q (0 : Int)).length = zeroT bs.length ts a (Q : Int) := by
  unfold storeV storeB storeT loadV zeroB zeroT
  refine ⟨?_, ?_, ?_⟩ <;> simp [List.length_replicate, Int.toNat_natCast]
theorem zero_neg (bs : List Int) (ts : List Bool) (a n : Int) (hn : n < 0) : loadV bs.length a n = rangeV a ∧ zeroB bs a n = bs ∧ zeroT bs.length ts a n = ts := by
  have hr : reachB a n bs.length = false := by
    unfold reachB
    rw [decide_eq_false (show ¬ 0 ≤ n by omega), Bool.and_false, Bool.false_and]
  unfold loadV zeroB zeroT
  rw [hr]
  exact ⟨rfl, rfl, rfl⟩
/-- A row of noughts that was just made. -/
theorem made_lies (w : World) (Q : Nat) (hQ : Q ≤ 9223372036854775807) (S : Nat → Prop) (hS : ¬ S w.heap.size) :
    Lies (w.alloc (.cells (madeCells #[.int .u8 0] Q) 5)) (.slice (some ⟨w.heap.size, 0, none⟩) Q Q) (List.replicate Q 0) S := by
  refine ⟨_, Q, by rw [List.length_replicate], by rw [List.length_replicate]; exact Nat.le_refl _, hQ, fun k hk => ⟨w.heap.size, 0, rfl, hS, by simp, ?_⟩⟩
  rw [(Box.new w _ _).cells, Nat.zero_add, made_u8]
  rw [List.length_replicate] at hk
  simp [u8s, List.getD_eq_getElem?_getD, List.getElem?_replicate, hk]
theorem eqin_rcap (t : Bool) (b p a m y : Int) (w : World) :
    (Op.equalIn 10000 46 (.agg #[.bool t, .int .u32 b, .int .u32 p, .int .u32 a, .int .u16 m, .int .u16 y]) (.agg #[.bool t, .int .u32 b, .int .u32 p, .int .u32 a, .int .u16 m, .int .u16 y])).run Tryd.prog w = .ok true w := by
  go_simp
end Go.Proofs.YtnnelghngekbpaaDoor
