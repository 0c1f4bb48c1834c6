/- The reference's Reader: where it lies, what it holds; fail, bound, levels. -/
import Derived.Test.YtockkidbncpdlaaGreatDoorLexAll
import Derived.Test.YtockkidbncpdlaaGreatDoorEvTab
namespace Go.Proofs.YtockkidbncpdlaaGreatDoor
set_option linter.unusedVariables false
set_option linter.unusedSimpArgs false
open Go.RowKit
/-- A Reader: its block, the words, the names. -/
structure Rdr where
  b : Nat
  p : Option Addr
  cap : Nat
  q : Option Addr
  capN : Nat
  toks : List Tok
  names : List (ByteArray × Int)
def Rdr.cells (r : Rdr) (a : Int) (part : ByteArray) (pl e : Int) : Array Value := #[.slice r.p r.toks.length r.cap, .int .i64 a, .slice r.q r.names.length r.capN, .string part, .int .i64 pl, .int .i64 e]
def tokenS : ByteArray := ⟨#[116, 111, 107, 101, 110]⟩
def nameRows (l : List (ByteArray × Int)) : List Value := l.flatMap fun x => [.string x.1, .int .i64 x.2]
/-- A row of cells lies where a slice says, in a block that is not b. -/
def RowIn (w : World) (b : Nat) (p : Option Addr) (xs : List Value) : Prop := xs = [] ∨ ∃ g vs, p = some ⟨g, 0, none⟩ ∧ g ≠ b ∧ Box w g vs ∧ ∀ i : Nat, i < xs.length → vs[i]? = xs[i]?
theorem RowIn.but {w w' : World} {b : Nat} {p : Option Addr} {xs : List Value} (h : RowIn w b p xs) (k : KeepBut (fun z => z = b) w w') : RowIn w' b p xs := by
  rcases h with h | ⟨g, vs, h1, h2, h3, h4⟩
  · exact .inl h
  · exact .inr ⟨g, vs, h1, h2, h3.but k h2, h4⟩
theorem RowIn.keep {w w' : World} {b : Nat} {p : Option Addr} {xs : List Value} (h : RowIn w b p xs) (k : Keep w w') : RowIn w' b p xs := h.but (k.but _)
structure Rdr.In (r : Rdr) (w : World) : Prop where
  toks : RowIn w r.b r.p (tokRows r.toks)
  names : RowIn w r.b r.q (nameRows r.names)
  few : r.toks.length ≤ 1000000
  fewN : r.names.length ≤ 1000000
  cap : r.toks.length ≤ r.cap
  capN : r.names.length ≤ r.capN
  small : ∀ t ∈ r.toks, t.kind = 2 → -1099511627776 ≤ t.n ∧ t.n ≤ 1099511627776
theorem Rdr.In.but {r : Rdr} {w w' : World} (h : r.In w) (k : KeepBut (fun z => z = r.b) w w') : r.In w' := ⟨h.toks.but k, h.names.but k, h.few, h.fewN, h.cap, h.capN, h.small⟩
theorem Rdr.In.keep {r : Rdr} {w w' : World} (h : r.In w) (k : Keep w w') : r.In w' := h.but (k.but _)
def Rdr.Ok (r : Rdr) (w : World) (a : Int) : Prop := Box w r.b (r.cells a ⟨#[]⟩ 0 0)
def Rdr.Bad (r : Rdr) (w : World) (pl e : Int) : Prop := e ≠ 0 ∧ ∃ a, Box w r.b (r.cells a tokenS pl e)
/-- The cells of the word at a place. -/
theorem Rdr.In.tok {r : Rdr} {w : World} (h : r.In w) {i : Nat} {t : Tok} (ht : r.toks[i]? = some t) : ∃ g, r.p = some ⟨g, 0, none⟩ ∧ g ≠ r.b ∧ w.cell? ⟨g, i * 4, none⟩ = some (.int .i64 t.kind) ∧ w.cell? ⟨g, i * 4 + 1, none⟩ = some (.string t.text) ∧ w.cell? ⟨g, i * 4 + 2, none⟩ = some (.int .i64 t.n) ∧ w.cell? ⟨g, i * 4 + 3, none⟩ = some (.int .i64 t.pl) := by
  have hi := (List.getElem?_eq_some_iff.1 ht).1
  have hl := tokRows_length r.toks
  rcases h.toks with h | ⟨g, vs, h1, h2, h3, h4⟩
  · rw [h] at hl; simp at hl; omega
  · refine ⟨g, h1, h2, ?_, ?_, ?_, ?_⟩
    · have := tokRows_row r.toks i 0 (by decide) t ht
      rw [h3.cells, h4 _ (by omega)]; exact this
    · have := tokRows_row r.toks i 1 (by decide) t ht
      rw [h3.cells, h4 _ (by omega)]; exact this
    · have := tokRows_row r.toks i 2 (by decide) t ht
      rw [h3.cells, h4 _ (by omega)]; exact this
    · have := tokRows_row r.toks i 3 (by decide) t ht
      rw [h3.cells, h4 _ (by omega)]; exact this
theorem nameRows_length (l : List (ByteArray × Int)) : (nameRows l).length = l.length * 2 := by
  induction l with
  | nil => rfl
  | cons t l ih => simp only [nameRows, List.flatMap_cons, List.length_append, List.length_cons] at ih ⊢; rw [ih]; simp; omega
theorem nameRows_row (l : List (ByteArray × Int)) (i j : Nat) (hj : j < 2) : ∀ t, l[i]? = some t → (nameRows l)[i * 2 + j]? = ([.string t.1, .int .i64 t.2] : List Value)[j]? := by
  induction l generalizing i with
  | nil => intro t h; simp at h
  | cons a l ih =>
    intro t h
    cases i with
    | zero =>
      simp only [List.getElem?_cons_zero, Option.some.injEq] at h
      subst h
      simp only [nameRows, List.flatMap_cons]
      rw [List.getElem?_append_left (by simp; omega)]
      simp
    | succ i =>
      simp only [List.getElem?_cons_succ] at h
      have := ih i t h
      simp only [nameRows, List.flatMap_cons] at this ⊢
      rw [List.getElem?_append_right (by simp; omega), ← this]
      congr 1
      simp; omega
theorem Rdr.In.name {r : Rdr} {w : World} (h : r.In w) {i : Nat} {t : ByteArray × Int} (ht : r.names[i]? = some t) : ∃ g, r.q = some ⟨g, 0, none⟩ ∧ g ≠ r.b ∧ w.cell? ⟨g, i * 2, none⟩ = some (.string t.1) ∧ w.cell? ⟨g, i * 2 + 1, none⟩ = some (.int .i64 t.2) := by
  have hi := (List.getElem?_eq_some_iff.1 ht).1
  have hl := nameRows_length r.names
  rcases h.names with h | ⟨g, vs, h1, h2, h3, h4⟩
  · rw [h] at hl; simp at hl; omega
  · refine ⟨g, h1, h2, ?_, ?_⟩
    · have := nameRows_row r.names i 0 (by decide) t ht
      rw [h3.cells, h4 _ (by omega)]; exact this
    · have := nameRows_row r.names i 1 (by decide) t ht
      rw [h3.cells, h4 _ (by omega)]; exact this
/-- The first error is kept. -/
theorem rfail_ok (r : Rdr) (a pl e : Int) (he : e ≠ 0) (w : World) (h : r.Ok w a) : Calls Tryz.prog 55 #[.pointer (some ⟨r.b, 0, none⟩), .int .i64 pl, .int .i64 e] w fun x w' => x = .returned (.tuple #[]) ∧ KeepBut (fun z => z = r.b) w w' ∧ r.Bad w' pl e := by
  unfold Rdr.Ok Rdr.cells at h
  have c := h.cells
  have f := h.thawed
  have HB := Lib.hid h
  clear h
  go_enter Tryz.func55, Tryz.ntmps55
  go_wp2_with fail
  go_end0
  refine ⟨rfl, ?_, he, a, ?_⟩
  · repeat (with_reducible refine KeepBut.setAt ?_ ?_ _; · exact .inl rfl)
    exact KeepBut.refl _ _
  · simpa [Rdr.cells, tokenS] using ((HB.out.set 3 (.string ⟨#[116, 111, 107, 101, 110]⟩)).set 4 (.int .i64 pl)).set 5 (.int .i64 e)
theorem rfail_bad (r : Rdr) (pl' e' : Int) (pl e : Int) (w : World) (h : r.Bad w pl' e') : Calls Tryz.prog 55 #[.pointer (some ⟨r.b, 0, none⟩), .int .i64 pl, .int .i64 e] w fun x w' => x = .returned (.tuple #[]) ∧ w = w' := by
  obtain ⟨he, a, h⟩ := h
  unfold Rdr.cells at h
  have c := h.cells
  have f := h.thawed
  have he' : (e' == 0) = false := beq_eq_false_iff_ne.2 he
  clear h he
  go_enter Tryz.func55, Tryz.ntmps55
  go_wp2_with fail
  go_end0
  exact ⟨rfl, rfl⟩
theorem rbound_ok (r : Rdr) (a n pl : Int) (w : World) (h : r.Ok w a) (hb : boundE n = some n) : Calls Tryz.prog 56 #[.pointer (some ⟨r.b, 0, none⟩), .int .i64 n, .int .i64 pl] w fun x w' => x = .returned (.int .i64 n) ∧ w = w' := by
  have h1 : ¬ (n < -1099511627776 ∨ 1099511627776 < n) := by
    intro hn
    unfold boundE lxBig at hb
    rw [if_pos hn] at hb
    cases hb
  have h2 : -1099511627776 ≤ n := by omega
  have h3 : n ≤ 1099511627776 := by omega
  clear h hb h1
  go_enter Tryz.func56, Tryz.ntmps56
  go_wp2_with fail
  go_ret
  exact ⟨rfl, rfl⟩
theorem rbound_over (r : Rdr) (a n pl : Int) (w : World) (h : r.Ok w a) (hb : boundE n = none) : Calls Tryz.prog 56 #[.pointer (some ⟨r.b, 0, none⟩), .int .i64 n, .int .i64 pl] w fun x w' => x = .returned (.int .i64 0) ∧ KeepBut (fun z => z = r.b) w w' ∧ r.Bad w' pl 14 := by
  have h1 : n < -1099511627776 ∨ 1099511627776 < n := by
    unfold boundE lxBig at hb
    split at hb
    · assumption
    · cases hb
  have C := Lib.hid (rfail_ok r a pl 14 (by decide) w h)
  clear h hb
  rcases h1 with h1 | h1
  · go_enter Tryz.func56, Tryz.ntmps56
    go_wp2_with fail
    refine C.out.mono ?_
    rintro e w' ⟨rfl, hk⟩
    have HK := Lib.hid hk
    clear hk
    go_wp2_with fail
    go_ret
    exact ⟨rfl, HK.out⟩
  · have h2 : decide (n < -1099511627776) = false := decide_eq_false (by omega)
    go_enter Tryz.func56, Tryz.ntmps56
    go_wp2_with fail
    refine C.out.mono ?_
    rintro e w' ⟨rfl, hk⟩
    have HK := Lib.hid hk
    clear hk
    go_wp2_with fail
    go_ret
    exact ⟨rfl, HK.out⟩
/-- Once an error is told, bound answers a number within the bound, and nothing changes. -/
theorem rbound_bad (r : Rdr) (n pl pl' e' : Int) (w : World) (h : r.Bad w pl' e') : Calls Tryz.prog 56 #[.pointer (some ⟨r.b, 0, none⟩), .int .i64 n, .int .i64 pl] w fun x w' => x = .returned (.int .i64 ((boundE n).getD 0)) ∧ w = w' := by
  have C := Lib.hid (rfail_bad r pl' e' pl 14 w h)
  clear h
  by_cases h1 : n < -1099511627776
  · rw [show (boundE n).getD 0 = 0 by unfold boundE lxBig; rw [if_pos (.inl h1)]; rfl]
    go_enter Tryz.func56, Tryz.ntmps56
    go_wp2_with fail
    refine C.out.mono ?_
    rintro e w' ⟨rfl, rfl⟩
    go_wp2_with fail
    go_ret
    exact ⟨rfl, rfl⟩
  · by_cases h2 : 1099511627776 < n
    · rw [show (boundE n).getD 0 = 0 by unfold boundE lxBig; rw [if_pos (.inr h2)]; rfl]
      have h1' : decide (n < -1099511627776) = false := decide_eq_false h1
      go_enter Tryz.func56, Tryz.ntmps56
      go_wp2_with fail
      refine C.out.mono ?_
      rintro e w' ⟨rfl, rfl⟩
      go_wp2_with fail
      go_ret
      exact ⟨rfl, rfl⟩
    · rw [show (boundE n).getD 0 = n by unfold boundE lxBig; rw [if_neg (by omega)]; rfl]
      go_enter Tryz.func56, Tryz.ntmps56
      go_wp2_with fail
      go_ret
      exact ⟨rfl, rfl⟩
/-- The signs of all levels, as they lie. -/
def LvIn (w : World) (v : Value) : Prop := ∃ g h, v = .slice (some ⟨g, 0, none⟩) 6 6 ∧ h + 6 = g ∧ ∀ k, k < 6 → w.cell? ⟨g, k, none⟩ = some (.slice (some ⟨h + k, 0, none⟩) (lvS k).length (lvS k).length) ∧ Box w (h + k) ((lvS k).map Value.string).toArray
theorem LvIn.but {w w' : World} {v : Value} {b : Nat} (h : LvIn w v) (k : KeepBut (fun z => z = b) w w') (hb : ∀ g, v = .slice (some ⟨g, 0, none⟩) 6 6 → b + 6 < g) : LvIn w' v := by
  obtain ⟨g, h, rfl, h1, h2⟩ := h
  have hb := hb g rfl
  refine ⟨g, h, rfl, h1, fun j hj => ?_⟩
  obtain ⟨c, d⟩ := h2 j hj
  refine ⟨?_, d.but k (by omega)⟩
  have hl := World.block_lt_of_cell? _ _ c
  have hk := k.block g hl (by omega)
  simp only [World.cell?] at c ⊢
  rw [hk]; exact c
theorem Box.newAt (w : World) (b : Nat) (vs : Array Value) (t : TypeId) (h : w.heap.size = b) : Box (w.alloc (.cells vs t)) b vs := by
  subst h; exact Box.new _ _ _
theorem rlevels_any (w : World) : Calls Tryz.prog 29 #[] w fun x w' => ∃ g, x = .returned (.slice (some ⟨g, 0, none⟩) 6 6) ∧ w.heap.size + 6 = g ∧ LvIn w' (.slice (some ⟨g, 0, none⟩) 6 6) ∧ Keep w w' := by
  go_enter Tryz.func29, Tryz.ntmps29
  go_wp2_with fail
  go_ret
  refine ⟨_, rfl, by omega, ⟨_, w.heap.size, rfl, by omega, fun k hk => ?_⟩, ((((((((Keep.refl _).alloc _).alloc _).alloc _).alloc _).alloc _).alloc _).alloc _)⟩
  have BG := Box.newAt ((((((w.alloc (.cells #[.string ⟨#[124]⟩] 9)).alloc (.cells #[.string ⟨#[94]⟩] 9)).alloc (.cells #[.string ⟨#[38]⟩] 9)).alloc (.cells #[.string ⟨#[60, 60]⟩, .string ⟨#[62, 62]⟩] 9)).alloc (.cells #[.string ⟨#[43]⟩, .string ⟨#[45]⟩] 9)).alloc (.cells #[.string ⟨#[42]⟩] 9))
    (w.heap.size + 1 + 1 + 1 + 1 + 1 + 1) #[.slice (some ⟨w.heap.size, 0, none⟩) 1 1, .slice (some ⟨w.heap.size + 1, 0, none⟩) 1 1, .slice (some ⟨w.heap.size + 1 + 1, 0, none⟩) 1 1, .slice (some ⟨w.heap.size + 1 + 1 + 1, 0, none⟩) 2 2, .slice (some ⟨w.heap.size + 1 + 1 + 1 + 1, 0, none⟩) 2 2, .slice (some ⟨w.heap.size + 1 + 1 + 1 + 1 + 1, 0, none⟩) 1 1] 84 (by simp)
  rcases (by omega : k = 0 ∨ k = 1 ∨ k = 2 ∨ k = 3 ∨ k = 4 ∨ k = 5) with rfl | rfl | rfl | rfl | rfl | rfl
  · exact ⟨by rw [BG.cells]; rfl, (((((((Box.newAt _ (w.heap.size + 0) _ _ (by simp)).alloc _).alloc _).alloc _).alloc _).alloc _).alloc _)⟩
  · exact ⟨by rw [BG.cells]; rfl, ((((((Box.newAt _ (w.heap.size + 1) _ _ (by simp)).alloc _).alloc _).alloc _).alloc _).alloc _)⟩
  · exact ⟨by rw [BG.cells]; rfl, (((((Box.newAt _ (w.heap.size + 2) _ _ (by simp)).alloc _).alloc _).alloc _).alloc _)⟩
  · exact ⟨by rw [BG.cells]; rfl, ((((Box.newAt _ (w.heap.size + 3) _ _ (by simp)).alloc _).alloc _).alloc _)⟩
  · exact ⟨by rw [BG.cells]; rfl, (((Box.newAt _ (w.heap.size + 4) _ _ (by simp)).alloc _).alloc _)⟩
  · exact ⟨by rw [BG.cells]; rfl, ((Box.newAt _ (w.heap.size + 5) _ _ (by simp)).alloc _)⟩
end Go.Proofs.YtockkidbncpdlaaGreatDoor
