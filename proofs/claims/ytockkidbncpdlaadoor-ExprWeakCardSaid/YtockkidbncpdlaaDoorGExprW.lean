/- ExprWeakM, ExprNum, ExprWeakW: Constants of the assembler, plain: two signs between three small numbers, and the same with the stronger ones in brackets. -/
import Derived.Test.YtockkidbncpdlaaDoorExprMath
import Derived.Test.YtockkidbncpdlaaDoorBits64
import Derived.Test.YtockkidbncpdlaaDoorEvLev
import Derived.Test.YtockkidbncpdlaaDoorChecked
import Derived.WalkKit
import Derived.WalkSmall
import Derived.Lib.Hide
import Derived.Test.YtockkidbncpdlaaDoorHex
import Derived.Test.YtockkidbncpdlaaDoorExprW
import Derived.Test.YtockkidbncpdlaaDoorGBase
/- Constants of the assembler, plain: two signs between three small numbers, and the same with the stronger ones in brackets. -/
namespace Go.Proofs.YtockkidbncpdlaaDoor
set_option linter.unusedVariables false
set_option linter.unusedSimpArgs false
open Go.RowKit
def dig (n : Nat) : List UInt8 := if n < 10 then [UInt8.ofNat (48 + n)] else if n < 100 then [UInt8.ofNat (48 + n / 10), UInt8.ofNat (48 + n % 10)] else [UInt8.ofNat (48 + n / 100), UInt8.ofNat (48 + n / 10 % 10), UInt8.ofNat (48 + n % 10)]
def nT (n i : Nat) : Tok := ⟨2, strL (dig n), n, i⟩
def chkDig (n : Nat) : Bool := (match oneL (dig n) with
    | .ok (t, k) => decide (t.kind = 2) && decide (t.text = strL (dig n)) && decide (t.n = (n : Int)) && decide (t.pl = 0) && decide (k = (dig n).length)
    | .error _ => false) && (dig n).all (fun b => decide ((b.toNat : Int) ≠ 59) && decide ((b.toNat : Int) ≠ 32) && decide ((b.toNat : Int) ≠ 9)) && decide (1 ≤ (dig n).length) && decide ((dig n).length ≤ 3)
theorem chk_all : ∀ n : Fin 256, chkDig n.val = true := by decide +kernel
structure DigOk (n : Nat) : Prop where
  one : oneL (dig n) = .ok (⟨2, strL (dig n), n, 0⟩, (dig n).length)
  bytes : ∀ b ∈ dig n, (b.toNat : Int) ≠ 59 ∧ (b.toNat : Int) ≠ 32 ∧ (b.toNat : Int) ≠ 9
  lo : 1 ≤ (dig n).length
  hi : (dig n).length ≤ 3
theorem dig_ok {n : Nat} (h : n < 256) : DigOk n := by
  have c := chk_all ⟨n, h⟩
  unfold chkDig at c
  simp only [Bool.and_eq_true, List.all_eq_true, decide_eq_true_eq] at c
  obtain ⟨⟨⟨c1, c2⟩, c3⟩, c4⟩ := c
  refine ⟨?_, fun b hb => ⟨(c2 b hb).1.1, (c2 b hb).1.2, (c2 b hb).2⟩, c3, c4⟩
  cases ho : oneL (dig n) with
  | error e => rw [ho] at c1; cases c1
  | ok x =>
    obtain ⟨⟨k, t, m, p⟩, q⟩ := x
    rw [ho] at c1
    simp only [Bool.and_eq_true, decide_eq_true_eq] at c1
    obtain ⟨⟨⟨⟨a1, a2⟩, a3⟩, a4⟩, a5⟩ := c1
    subst a1 a2 a3 a4 a5
    rfl
theorem lex_dig {n : Nat} (h : n < 256) (i : Nat) : lexL (dig n) i = .ok [nT n i] := by
  have d := dig_ok h
  have ho := d.one
  have hb := d.bytes
  have hl := d.lo
  cases hd : dig n with
  | nil => rw [hd] at hl; simp at hl
  | cons c r =>
    have hc := hb c (by rw [hd]; simp)
    rw [hd] at ho
    rw [lexL_ok i hc.1 (by omega) ho, List.drop_eq_nil_of_le (Nat.le_refl _), lexL_nil]
    show Except.ok _ = _
    unfold nT
    rw [hd]; rfl
theorem dig_59 {n : Nat} (h : n < 256) : ∀ b ∈ dig n, (b.toNat : Int) ≠ 59 := fun b hb => ((dig_ok h).bytes b hb).1
theorem lex_num {n : Nat} (h : n < 256) {c : UInt8} {r : List UInt8} (hc : IsSign c) (i : Nat) : lexL (dig n ++ c :: r) i = lexApp [nT n i, sgT c (i + (dig n).length)] (lexL r (i + (dig n).length + 1)) := by
  rw [lexL_cat hc.stops _ (dig n) i [nT n i] (Nat.le_refl _) (lex_dig h i) (dig_59 h), lexL_sign hc, ← lexApp_app]; rfl
-- the three texts
def wk1 (x y z : Nat) (c d : UInt8) : List UInt8 := dig x ++ c :: (dig y ++ d :: dig z)
def wk2 (x y z : Nat) (c d : UInt8) : List UInt8 := 40 :: (dig x ++ c :: (dig y ++ 41 :: d :: dig z))
def wk3 (x y z : Nat) (c d : UInt8) : List UInt8 := dig x ++ c :: 40 :: (dig y ++ d :: (dig z ++ [41]))
theorem wk1_lex {x y z : Nat} (hx : x < 256) (hy : y < 256) (hz : z < 256) {c d : UInt8} (hc : IsSign c) (hd : IsSign d) : ∃ a b e f, lexL (wk1 x y z c d) 0 = .ok [nT x 0, sgT c a, nT y b, sgT d e, nT z f] := by
  unfold wk1
  rw [lex_num hx hc, lex_num hy hd, lex_dig hz]
  exact ⟨_, _, _, _, rfl⟩
theorem wk2_lex {x y z : Nat} (hx : x < 256) (hy : y < 256) (hz : z < 256) {c d : UInt8} (hc : IsSign c) (hd : IsSign d) : ∃ o a b e f g h, lexL (wk2 x y z c d) 0 = .ok [sgT 40 o, nT x a, sgT c b, nT y e, sgT 41 f, sgT d g, nT z h] := by
  unfold wk2
  rw [lexL_sign sign40, lex_num hx hc, lex_num hy sign41, lexL_sign hd, lex_dig hz]
  exact ⟨_, _, _, _, _, _, _, rfl⟩
theorem wk3_lex {x y z : Nat} (hx : x < 256) (hy : y < 256) (hz : z < 256) {c d : UInt8} (hc : IsSign c) (hd : IsSign d) : ∃ a b e f g h i, lexL (wk3 x y z c d) 0 = .ok [nT x a, sgT c b, sgT 40 e, nT y f, sgT d g, nT z h, sgT 41 i] := by
  unfold wk3
  rw [lex_num hx hc, lexL_sign sign40, lex_num hy hd, lex_num hz sign41, lexL_nil]
  exact ⟨_, _, _, _, _, _, _, rfl⟩
theorem wk_59 {x y z : Nat} (hx : x < 256) (hy : y < 256) (hz : z < 256) {c d : UInt8} (hc : IsSign c) (hd : IsSign d) : (∀ b ∈ wk1 x y z c d, (b.toNat : Int) ≠ 59) ∧ (∀ b ∈ wk2 x y z c d, (b.toNat : Int) ≠ 59) ∧ ∀ b ∈ wk3 x y z c d, (b.toNat : Int) ≠ 59 := by
  have n40 : ((40 : UInt8).toNat : Int) ≠ 59 := by decide
  have n41 : ((41 : UInt8).toNat : Int) ≠ 59 := by decide
  have dx := dig_59 hx
  have dy := dig_59 hy
  have dz := dig_59 hz
  have nc := hc.ne.1
  have nd := hd.ne.1
  refine ⟨fun b hb => ?_, fun b hb => ?_, fun b hb => ?_⟩
  · simp only [wk1, List.mem_append, List.mem_cons] at hb
    rcases hb with h | rfl | h | rfl | h
    · exact dx b h
    · exact nc
    · exact dy b h
    · exact nd
    · exact dz b h
  · simp only [wk2, List.mem_append, List.mem_cons] at hb
    rcases hb with rfl | h | rfl | h | rfl | rfl | h
    · exact n40
    · exact dx b h
    · exact nc
    · exact dy b h
    · exact n41
    · exact nd
    · exact dz b h
  · simp only [wk3, List.mem_append, List.mem_cons, List.not_mem_nil, or_false] at hb
    rcases hb with h | rfl | rfl | h | rfl | h | rfl
    · exact dx b h
    · exact nc
    · exact n40
    · exact dy b h
    · exact nd
    · exact dz b h
    · exact n41
-- what signs stand where
theorem sat_num {L : List Tok} {p n i : Nat} (h : L[p]? = some (nT n i)) (S : List ByteArray) : signAt L p S = none := by
  unfold signAt; rw [h]; simp [nT]
theorem sat_sg {L : List Tok} {p i : Nat} {c : UInt8} (h : L[p]? = some (sgT c i)) (S : List ByteArray) : signAt L p S = if inS S (strL [c]) = true then some (strL [c]) else none := by
  unfold signAt; rw [h]; simp [sgT]
theorem sat_end {L : List Tok} {p : Nat} (h : L[p]? = none) (S : List ByteArray) : signAt L p S = none := by
  unfold signAt; rw [h]
theorem sat_yes {L : List Tok} {p i k : Nat} {c : UInt8} (h : L[p]? = some (sgT c i)) (hc : SignOf c k) : signAt L p (lvS k) = some (strL [c]) := by rw [sat_sg h, if_pos hc.yes]
theorem sat_no {L : List Tok} {p i k j : Nat} {c : UInt8} (h : L[p]? = some (sgT c i)) (hc : SignOf c k) (hj : j ≠ k) : signAt L p (lvS j) = none := by rw [sat_sg h, if_neg (by rw [hc.no j hj]; decide)]
theorem sat_shut {L : List Tok} {p i : Nat} (h : L[p]? = some (sgT 41 i)) (j : Nat) : signAt L p (lvS j) = none := by rw [sat_sg h, if_neg (by rw [shut_none]; decide)]
theorem ev_num {L : List Tok} {N : List (ByteArray × Int)} {p n i d : Nat} (h : L[p]? = some (nT n i)) : Ev L N (.lev 6 p) d (.ok n (p + 1)) := by
  have e := Ev.atom (N := N) (d := d) h (.inl rfl)
  have e2 : atomE N (nT n i) p = .ok n (p + 1) := if_pos rfl
  rw [e2] at e
  exact .top e
/-- Two that stand alone with a sign between. -/
theorem Ev.pair {L : List Tok} {N : List (ByteArray × Int)} {a p q d k i : Nat} {x y u : Int} {c : UInt8} (h1 : Ev L N (.lev 6 a) d (.ok x p)) (hs : L[p]? = some (sgT c i)) (hc : SignOf c k) (h2 : Ev L N (.lev 6 (p + 1)) d (.ok y q))
    (he : ∀ j, k ≤ j → signAt L q (lvS j) = none) (hj : joinE (strL [c]) x y = some u) : Ev L N (.lev k a) d (.ok u q) := by
  have lt := hc.lt
  have e1 := Ev.up (k + 1) (5 - k) (by omega) (by rw [show k + 1 + (5 - k) = 6 by omega]; exact h1) (fun j h3 h4 => sat_no hs hc (by omega))
  have e2 := Ev.up (k + 1) (5 - k) (by omega) (by rw [show k + 1 + (5 - k) = 6 by omega]; exact h2) (fun j h3 h4 => he j (by omega))
  exact Ev.bin lt e1 (sat_yes hs hc) e2 (he k (Nat.le_refl _)) hj
theorem Ev.low {L : List Tok} {N : List (ByteArray × Int)} {a q d k : Nat} {u : Int} (hk : k < 6) (h : Ev L N (.lev k a) d (.ok u q)) (he : ∀ j, signAt L q (lvS j) = none) : Ev L N (.lev 0 a) d (.ok u q) :=
  Ev.up 0 k (by omega) (by rw [Nat.zero_add]; exact h) (fun j _ _ => he j)
theorem open40 {L : List Tok} {p i : Nat} (h : L[p]? = some (sgT 40 i)) : signAt L p unS = some sOpen := by rw [sat_sg h, if_pos (by decide +kernel)]; rfl
theorem shut41 {L : List Tok} {p i : Nat} (h : L[p]? = some (sgT 41 i)) : signAt L p [sShut] = some sShut := by rw [sat_sg h, if_pos (by decide +kernel)]; rfl
/-- The sign behind is no stronger: the first two first. -/
theorem weak_first {x y z : Nat} (hx : x < 256) (hy : y < 256) (hz : z < 256) {c d : UInt8} {k l : Nat} (hc : SignOf c k) (hd : SignOf d l) (hkl : l ≤ k) {u v : Int} (h1 : joinE (strL [c]) x y = some u) (h2 : joinE (strL [d]) u z = some v) : Whole (wk1 x y z c d) v ∧ Whole (wk2 x y z c d) v := by
  have lc := hc.lt
  have ld := hd.lt
  obtain ⟨w1, w2, _⟩ := wk_59 hx hy hz hc.sign hd.sign
  constructor
  · obtain ⟨a, b, e, f, hl⟩ := wk1_lex hx hy hz hc.sign hd.sign
    refine ⟨_, hl, w1, ?_⟩
    show Ev [nT x 0, sgT c a, nT y b, sgT d e, nT z f] [] (.lev 0 0) 0 (.ok v 5)
    generalize hL : [nT x 0, sgT c a, nT y b, sgT d e, nT z f] = L
    have t0 : L[0]? = some (nT x 0) := by rw [← hL]; rfl
    have t1 : L[1]? = some (sgT c a) := by rw [← hL]; rfl
    have t2 : L[2]? = some (nT y b) := by rw [← hL]; rfl
    have t3 : L[3]? = some (sgT d e) := by rw [← hL]; rfl
    have t4 : L[4]? = some (nT z f) := by rw [← hL]; rfl
    have t5 : L[5]? = none := by rw [← hL]; rfl
    have ex := ev_num (N := []) (d := 0) t0
    have ey := ev_num (N := []) (d := 0) t2
    have ez := ev_num (N := []) (d := 0) t4
    have en : ∀ j, signAt L 5 (lvS j) = none := fun j => sat_end t5 _
    refine Ev.low ld ?_ en
    by_cases hlt : l < k
    · have e1 := Ev.pair ex t1 hc ey (fun j hj => sat_no t3 hd (by omega)) h1
      have e2 := Ev.up (l + 1) (k - l - 1) (by omega) (by rw [show l + 1 + (k - l - 1) = k by omega]; exact e1) (fun j h3 h4 => sat_no t3 hd (by omega))
      have e3 := Ev.up (l + 1) (5 - l) (by omega) (by rw [show l + 1 + (5 - l) = 6 by omega]; exact ez) (fun j h3 h4 => en j)
      exact Ev.bin ld e2 (sat_yes t3 hd) e3 (en l) h2
    · obtain rfl : l = k := by omega
      have e1 := Ev.up (l + 1) (5 - l) (by omega) (by rw [show l + 1 + (5 - l) = 6 by omega]; exact ex) (fun j h3 h4 => sat_no t1 hc (by omega))
      have e2 := Ev.up (l + 1) (5 - l) (by omega) (by rw [show l + 1 + (5 - l) = 6 by omega]; exact ey) (fun j h3 h4 => sat_no t3 hd (by omega))
      have e3 := Ev.up (l + 1) (5 - l) (by omega) (by rw [show l + 1 + (5 - l) = 6 by omega]; exact ez) (fun j h3 h4 => en j)
      exact Ev.bin2 ld e1 (sat_yes t1 hc) e2 h1 (sat_yes t3 hd) e3 h2 (en l)
  · obtain ⟨o, a, b, e, f, g, h, hl⟩ := wk2_lex hx hy hz hc.sign hd.sign
    refine ⟨_, hl, w2, ?_⟩
    show Ev [sgT 40 o, nT x a, sgT c b, nT y e, sgT 41 f, sgT d g, nT z h] [] (.lev 0 0) 0 (.ok v 7)
    generalize hL : [sgT 40 o, nT x a, sgT c b, nT y e, sgT 41 f, sgT d g, nT z h] = L
    have t0 : L[0]? = some (sgT 40 o) := by rw [← hL]; rfl
    have t1 : L[1]? = some (nT x a) := by rw [← hL]; rfl
    have t2 : L[2]? = some (sgT c b) := by rw [← hL]; rfl
    have t3 : L[3]? = some (nT y e) := by rw [← hL]; rfl
    have t4 : L[4]? = some (sgT 41 f) := by rw [← hL]; rfl
    have t5 : L[5]? = some (sgT d g) := by rw [← hL]; rfl
    have t6 : L[6]? = some (nT z h) := by rw [← hL]; rfl
    have t7 : L[7]? = none := by rw [← hL]; rfl
    have e1 := Ev.pair (ev_num (N := []) (d := 1) t1) t2 hc (ev_num (N := []) (d := 1) t3) (fun j _ => sat_shut t4 j) h1
    have e2 := Ev.brack (open40 t0) (by decide) (Ev.low lc e1 (fun j => sat_shut t4 j)) (shut41 t4)
    have e3 := Ev.pair e2 t5 hd (ev_num (N := []) (d := 0) t6) (fun j _ => sat_end t7 _) h2
    exact Ev.low ld e3 (fun j => sat_end t7 _)
/-- The sign behind is stronger: the last two first. -/
theorem weak_last {x y z : Nat} (hx : x < 256) (hy : y < 256) (hz : z < 256) {c d : UInt8} {k l : Nat} (hc : SignOf c k) (hd : SignOf d l) (hkl : k < l) {u v : Int} (h1 : joinE (strL [d]) y z = some u) (h2 : joinE (strL [c]) x u = some v) : Whole (wk1 x y z c d) v ∧ Whole (wk3 x y z c d) v := by
  have lc := hc.lt
  have ld := hd.lt
  obtain ⟨w1, _, w3⟩ := wk_59 hx hy hz hc.sign hd.sign
  constructor
  · obtain ⟨a, b, e, f, hl⟩ := wk1_lex hx hy hz hc.sign hd.sign
    refine ⟨_, hl, w1, ?_⟩
    show Ev [nT x 0, sgT c a, nT y b, sgT d e, nT z f] [] (.lev 0 0) 0 (.ok v 5)
    generalize hL : [nT x 0, sgT c a, nT y b, sgT d e, nT z f] = L
    have t0 : L[0]? = some (nT x 0) := by rw [← hL]; rfl
    have t1 : L[1]? = some (sgT c a) := by rw [← hL]; rfl
    have t2 : L[2]? = some (nT y b) := by rw [← hL]; rfl
    have t3 : L[3]? = some (sgT d e) := by rw [← hL]; rfl
    have t4 : L[4]? = some (nT z f) := by rw [← hL]; rfl
    have t5 : L[5]? = none := by rw [← hL]; rfl
    have ex := ev_num (N := []) (d := 0) t0
    have ey := ev_num (N := []) (d := 0) t2
    have ez := ev_num (N := []) (d := 0) t4
    have en : ∀ j, signAt L 5 (lvS j) = none := fun j => sat_end t5 _
    have e1 := Ev.pair ey t3 hd ez (fun j hj => en j) h1
    have e2 := Ev.up (k + 1) (l - k - 1) (by omega) (by rw [show k + 1 + (l - k - 1) = l by omega]; exact e1) (fun j h3 h4 => en j)
    have e3 := Ev.up (k + 1) (5 - k) (by omega) (by rw [show k + 1 + (5 - k) = 6 by omega]; exact ex) (fun j h3 h4 => sat_no t1 hc (by omega))
    exact Ev.low lc (Ev.bin lc e3 (sat_yes t1 hc) e2 (en k) h2) en
  · obtain ⟨a, b, e, f, g, h, i, hl⟩ := wk3_lex hx hy hz hc.sign hd.sign
    refine ⟨_, hl, w3, ?_⟩
    show Ev [nT x a, sgT c b, sgT 40 e, nT y f, sgT d g, nT z h, sgT 41 i] [] (.lev 0 0) 0 (.ok v 7)
    generalize hL : [nT x a, sgT c b, sgT 40 e, nT y f, sgT d g, nT z h, sgT 41 i] = L
    have t0 : L[0]? = some (nT x a) := by rw [← hL]; rfl
    have t1 : L[1]? = some (sgT c b) := by rw [← hL]; rfl
    have t2 : L[2]? = some (sgT 40 e) := by rw [← hL]; rfl
    have t3 : L[3]? = some (nT y f) := by rw [← hL]; rfl
    have t4 : L[4]? = some (sgT d g) := by rw [← hL]; rfl
    have t5 : L[5]? = some (nT z h) := by rw [← hL]; rfl
    have t6 : L[6]? = some (sgT 41 i) := by rw [← hL]; rfl
    have t7 : L[7]? = none := by rw [← hL]; rfl
    have e1 := Ev.pair (ev_num (N := []) (d := 1) t3) t4 hd (ev_num (N := []) (d := 1) t5) (fun j _ => sat_shut t6 j) h1
    have e2 := Ev.brack (open40 t2) (by decide) (Ev.low ld e1 (fun j => sat_shut t6 j)) (shut41 t6)
    have e3 := Ev.pair (ev_num (N := []) (d := 0) t0) t1 hc e2 (fun j _ => sat_end t7 _) h2
    exact Ev.low lc e3 (fun j => sat_end t7 _)
-- what the six signs make of small numbers
def sgc (i : Nat) : UInt8 := ([124, 94, 38, 43, 45, 42] : List UInt8).getD i 0
def lvK (i : Nat) : Nat := ([0, 1, 2, 4, 4, 5] : List Nat).getD i 0
theorem sgc_of : ∀ i, i < 6 → SignOf (sgc i) (lvK i)
  | 0, _ => sign124
  | 1, _ => sign94
  | 2, _ => sign38
  | 3, _ => sign43
  | 4, _ => sign45
  | 5, _ => sign42
  | (n + 6), h => absurd h (by omega)
theorem boundE_it {n : Int} (h0 : -1099511627776 ≤ n) (h1 : n ≤ 1099511627776) : boundE n = some n := by unfold boundE lxBig; rw [if_neg (by omega)]
theorem absI_le {x m : Int} (h0 : -m ≤ x) (h1 : x ≤ m) : 0 ≤ absI x ∧ absI x ≤ m := by unfold absI; split <;> omega
theorem timesE_it {x y : Int} (hx : -131072 ≤ x ∧ x ≤ 131072) (hy : -131072 ≤ y ∧ y ≤ 131072) : timesE x y = some (x * y) := by
  unfold timesE lxBig
  by_cases hz : x = 0 ∨ y = 0
  · rw [if_pos hz]; rcases hz with rfl | rfl <;> simp
  · rw [if_neg hz, if_neg]
    have hb : 0 < absI y := by unfold absI; split <;> omega
    have a1 := absI_le hx.1 hx.2
    have b1 := absI_le hy.1 hy.2
    have h1 : absI x * absI y ≤ 131072 * 131072 := Int.mul_le_mul a1.2 b1.2 (Int.le_of_lt hb) (by decide)
    have : absI x ≤ 1099511627776 / absI y := by
      rw [Int.le_ediv_iff_mul_le hb]; omega
    omega
theorem join_bar (x y : Int) : joinE (strL [124]) x y = boundE (bits .or .i64 x y) := by unfold joinE; rw [if_pos (by decide +kernel)]
theorem join_hat (x y : Int) : joinE (strL [94]) x y = boundE (bits .xor .i64 x y) := by unfold joinE; rw [if_neg (by decide +kernel), if_pos (by decide +kernel)]
theorem join_amp (x y : Int) : joinE (strL [38]) x y = boundE (bits .and .i64 x y) := by unfold joinE; rw [if_neg (by decide +kernel), if_neg (by decide +kernel), if_pos (by decide +kernel)]
theorem join_add (x y : Int) : joinE (strL [43]) x y = boundE (x + y) := by unfold joinE; rw [if_neg (by decide +kernel), if_neg (by decide +kernel), if_neg (by decide +kernel), if_pos (by decide +kernel)]
theorem join_sub (x y : Int) : joinE (strL [45]) x y = boundE (x - y) := by unfold joinE; rw [if_neg (by decide +kernel), if_neg (by decide +kernel), if_neg (by decide +kernel), if_neg (by decide +kernel), if_pos (by decide +kernel)]
theorem join_mul (x y : Int) : joinE (strL [42]) x y = timesE x y := by unfold joinE; rw [if_neg (by decide +kernel), if_neg (by decide +kernel), if_neg (by decide +kernel), if_neg (by decide +kernel), if_neg (by decide +kernel), if_pos (by decide +kernel)]
theorem bits_in (op : BinOp) (hop : op = .and ∨ op = .or ∨ op = .xor) {x y : Int} (hx : -131072 ≤ x ∧ x ≤ 131072) (hy : -131072 ≤ y ∧ y ≤ 131072) : -262144 ≤ bits op .i64 x y ∧ bits op .i64 x y ≤ 262144 := by
  have := bits_small (n := 18) (by decide) op x y hop (by have : ((2 ^ 18 : Nat) : Int) = 262144 := rfl; omega) (by have : ((2 ^ 18 : Nat) : Int) = 262144 := rfl; omega) (by have : ((2 ^ 18 : Nat) : Int) = 262144 := rfl; omega) (by have : ((2 ^ 18 : Nat) : Int) = 262144 := rfl; omega)
  have e : ((2 ^ 18 : Nat) : Int) = 262144 := rfl
  omega
theorem bits_in8 (op : BinOp) (hop : op = .and ∨ op = .or ∨ op = .xor) {x y : Int} (hx : 0 ≤ x ∧ x ≤ 255) (hy : 0 ≤ y ∧ y ≤ 255) : -131072 ≤ bits op .i64 x y ∧ bits op .i64 x y ≤ 131072 := by
  have e : ((2 ^ 8 : Nat) : Int) = 256 := rfl
  have := bits_small (n := 8) (by decide) op x y hop (by omega) (by omega) (by omega) (by omega)
  omega
theorem join_any : ∀ i, i < 6 → ∀ {x y : Int}, (-131072 ≤ x ∧ x ≤ 131072) → (-131072 ≤ y ∧ y ≤ 131072) → ∃ u, joinE (strL [sgc i]) x y = some u
  | 0, _, x, y, hx, hy => ⟨_, by have b := bits_in .or (.inr (.inl rfl)) hx hy; exact (join_bar x y).trans (boundE_it (by omega) (by omega))⟩
  | 1, _, x, y, hx, hy => ⟨_, by have b := bits_in .xor (.inr (.inr rfl)) hx hy; exact (join_hat x y).trans (boundE_it (by omega) (by omega))⟩
  | 2, _, x, y, hx, hy => ⟨_, by have b := bits_in .and (.inl rfl) hx hy; exact (join_amp x y).trans (boundE_it (by omega) (by omega))⟩
  | 3, _, x, y, hx, hy => ⟨_, (join_add x y).trans (boundE_it (by omega) (by omega))⟩
  | 4, _, x, y, hx, hy => ⟨_, (join_sub x y).trans (boundE_it (by omega) (by omega))⟩
  | 5, _, x, y, hx, hy => ⟨_, (join_mul x y).trans (timesE_it hx hy)⟩
  | (n + 6), h, _, _, _, _ => absurd h (by omega)
theorem join_small : ∀ i, i < 6 → ∀ {x y : Int}, (0 ≤ x ∧ x ≤ 255) → (0 ≤ y ∧ y ≤ 255) → ∃ u, joinE (strL [sgc i]) x y = some u ∧ -131072 ≤ u ∧ u ≤ 131072
  | 0, _, x, y, hx, hy => ⟨_, by have b := bits_in8 .or (.inr (.inl rfl)) hx hy; exact ⟨(join_bar x y).trans (boundE_it (by omega) (by omega)), b⟩⟩
  | 1, _, x, y, hx, hy => ⟨_, by have b := bits_in8 .xor (.inr (.inr rfl)) hx hy; exact ⟨(join_hat x y).trans (boundE_it (by omega) (by omega)), b⟩⟩
  | 2, _, x, y, hx, hy => ⟨_, by have b := bits_in8 .and (.inl rfl) hx hy; exact ⟨(join_amp x y).trans (boundE_it (by omega) (by omega)), b⟩⟩
  | 3, _, x, y, hx, hy => ⟨_, (join_add x y).trans (boundE_it (by omega) (by omega)), by omega, by omega⟩
  | 4, _, x, y, hx, hy => ⟨_, (join_sub x y).trans (boundE_it (by omega) (by omega)), by omega, by omega⟩
  | 5, _, x, y, hx, hy => ⟨_, (join_mul x y).trans (timesE_it (by omega) (by omega)), by
      have h1 : x * y ≤ 255 * 255 := Int.mul_le_mul hx.2 hy.2 hy.1 (by decide)
      have h0 : 0 ≤ x * y := Int.mul_nonneg hx.1 hy.1
      omega⟩
  | (n + 6), h, _, _, _, _ => absurd h (by omega)
/-- Both texts are the same constant. -/
theorem weak_all {i j x y z : Nat} (hi : i < 6) (hj : j < 6) (hx : x < 256) (hy : y < 256) (hz : z < 256) :
    ∃ v, Whole (wk1 x y z (sgc i) (sgc j)) v ∧ (lvK i < lvK j → Whole (wk3 x y z (sgc i) (sgc j)) v) ∧ (¬ lvK i < lvK j → Whole (wk2 x y z (sgc i) (sgc j)) v) := by
  by_cases h : lvK i < lvK j
  · obtain ⟨u, h1, h2, h3⟩ := join_small j hj (x := y) (y := z) (by omega) (by omega)
    obtain ⟨v, h4⟩ := join_any i hi (x := x) (y := u) (by omega) ⟨h2, h3⟩
    obtain ⟨a, b⟩ := weak_last hx hy hz (sgc_of i hi) (sgc_of j hj) h h1 h4
    exact ⟨v, a, fun _ => b, fun hn => absurd h hn⟩
  · obtain ⟨u, h1, h2, h3⟩ := join_small i hi (x := x) (y := y) (by omega) (by omega)
    obtain ⟨v, h4⟩ := join_any j hj (x := u) (y := z) ⟨h2, h3⟩ (by omega)
    obtain ⟨a, b⟩ := weak_first hx hy hz (sgc_of i hi) (sgc_of j hj) (by omega) h1 h4
    exact ⟨v, a, fun hn => absurd hn h, fun _ => b⟩
end Go.Proofs.YtockkidbncpdlaaDoor

/- hasplaw13.num: a small number's digits. -/
namespace Go.Proofs.YtockkidbncpdlaaDoor
set_option linter.unusedVariables false
set_option linter.unusedSimpArgs false
open Go.RowKit
def dgB (n : Nat) : UInt8 := UInt8.ofNat (48 + n)
theorem dgB_val (n : Nat) (h : n < 10) : (dgB n).toNat = 48 + n := by unfold dgB; rw [UInt8.toNat_ofNat']; omega
theorem dig_step (v : Nat) (h : 10 ≤ v) (h2 : v < 256) : dig v = dig (v / 10) ++ [dgB (v % 10)] := by
  unfold dig dgB
  by_cases h3 : v < 100
  · rw [if_neg (by omega), if_pos h3, if_pos (by omega)]; rfl
  · rw [if_neg (by omega), if_neg h3, if_neg (by omega), if_pos (by omega), Nat.div_div_eq_div_mul]; rfl
theorem dig_last (v : Nat) (h : v < 10) : dig v = [dgB v] := by unfold dig; rw [if_pos h]; rfl
theorem convOne (d : Nat) (h : d < 10) (wr : World) :
    (convert 44 9 (.slice (some ⟨wr.heap.size, 0, none⟩) 1 1)).run Tryd.prog (wr.alloc (.cells #[.int .u8 (48 + (d : Int))] 5)) = .ok (.string (strL [dgB d])) (wr.alloc (.cells #[.int .u8 (48 + (d : Int))] 5)) := by
  rw [run_convert_bytes_arg _ 44 5 Tryd.underlying44 Tryd.underlying5 wr.heap.size 0 1 1 [48 + (d : Int)] rfl
    (fun i hi => by
      have : i = 0 := by omega
      subst this
      rw [World.cell?_alloc_at _ _ _ _ rfl]; rfl) 9 Tryd.underlying9]
  have e : strOfNums [48 + (d : Int)] = strL [dgB d] := by
    have := hexStr [dgB d]
    rw [List.map_cons, List.map_nil, dgB_val d h] at this
    show _ = (⟨[dgB d].toArray⟩ : ByteArray)
    rw [← this]
    congr 2
  rw [e]
theorem strL_cat (a b : List UInt8) : strL a ++ strL b = strL (a ++ b) := by
  apply ByteArray.ext; simp [strL, ByteArray.data_append]
theorem strL_size (a : List UInt8) : (strL a).size = a.length := by
  show (a.toArray).size = _; simp
theorem strL_list (a : List UInt8) : (strL a).data.toList = a := by simp [strL]
def moreN : Value → Nat
  | .bool true => 1
  | _ => 0
theorem moreN_true : moreN (.bool true) = 1 := rfl
theorem moreN_false : moreN (.bool false) = 0 := rfl
def NumAt (N : Nat) (w : World) (u s m : Value) (wr : World) : Prop :=
  ∃ (v : Nat) (rest : List UInt8) (mb : Bool), v < 256 ∧ u = .int .u8 (v : Int) ∧ s = .string (strL rest) ∧ m = .bool mb ∧ rest.length ≤ 3 ∧ (mb = true → dig N = dig v ++ rest) ∧ (mb = false → rest = dig N) ∧ Keep w wr
set_option maxHeartbeats 1000000 in
theorem pnum_any (N : Nat) (hN : N < 256) (w : World) : Calls Tryd.prog 8 #[.int .u8 (N : Int)] w fun e w' => e = .returned (.string (strL (dig N))) ∧ Keep w w' := by
  have HI := Lib.hid (dig_ok hN).hi
  go_enter Tryd.func8, Tryd.ntmps8
  go_wp2_with fail
  go_loopw [0, 3, 4] (fun u s m wr => NumAt N w u s m wr) (fun u _ m _ => 2 * (intOf u).toNat + moreN m)
  case atStart => exact ⟨N, [], true, hN, rfl, rfl, rfl, by simp, fun _ => by simp, (fun h => by cases h), Keep.refl _⟩
  case round =>
    obtain ⟨v, rest, mb, hv, rfl, rfl, rfl, hr, h1, h2, hk⟩ := hrel
    have HK := Lib.hid hk
    clear hk
    cases mb
    · have H2 := Lib.hid (h2 rfl)
      clear h1 h2
      go_wp2_with fail
      go_ret
      exact ⟨by rw [← H2.out] <;> rfl, HK.out⟩
    · have H1 := Lib.hid (h1 rfl)
      clear h1 h2
      obtain ⟨q, hq⟩ : ∃ q : Nat, (v : Int) / 10 = (q : Int) := ⟨v / 10, by omega⟩
      have HQ : Hid (q = v / 10) := Lib.hid (by omega)
      obtain ⟨d, hd⟩ : ∃ d : Nat, (v : Int) % 10 = (d : Int) := ⟨v % 10, by omega⟩
      have HD : Hid (d = v % 10) := Lib.hid (by omega)
      have d10 : d < 10 := by omega
      have q0 : (0 : Int) ≤ (q : Int) := by omega
      have q1 : (q : Int) ≤ 255 := by omega
      have v0 : (0 : Int) ≤ (v : Int) := by omega
      have v1 : (v : Int) ≤ 255 := by omega
      have d0 : (0 : Int) ≤ (d : Int) := by omega
      have d1 : (d : Int) < 10 := by omega
      have hc := convOne d d10
      have sz1 : (strL [dgB d]).size = 1 := strL_size _
      have sz2 : (strL rest).size ≤ 3 := by rw [strL_size]; exact hr
      have cat := strL_cat [dgB d] rest
      by_cases h : 10 ≤ v
      · have hp : (0 : Int) < (q : Int) := by omega
        have hp' : decide (0 < q) = true := decide_eq_true (by omega)
        have HS : Hid (dig N = dig q ++ (dgB d :: rest)) := Lib.hid (by
          rw [H1.out, dig_step v h hv, ← HQ.out, ← HD.out, List.append_assoc]; rfl)
        have HL : Hid ((dgB d :: rest).length ≤ 3) := Lib.hid (by
          have a := congrArg List.length HS.out
          rw [List.length_append] at a
          have b := (dig_ok (n := q) (by omega)).lo
          have c := HI.out
          omega)
        go_wp2_with fail
        go_roundw
        case rel => exact ⟨q, dgB d :: rest, true, by omega, rfl, by first | rfl | (rw [cat]; rfl), rfl, HL.out, fun _ => HS.out, (fun h => by cases h), HK.out.alloc _⟩
        case measure => have := HQ.out; simp [intOf, moreN_true]; omega
      · have hp : (q : Int) = 0 := by omega
        have HS : Hid (dgB d :: rest = dig N) := Lib.hid (by
          rw [H1.out, dig_last v (by omega), HD.out, Nat.mod_eq_of_lt (by omega)]; rfl)
        have HL : Hid ((dgB d :: rest).length ≤ 3) := Lib.hid (by rw [HS.out]; exact HI.out)
        obtain rfl : q = 0 := by omega
        go_wp2_with fail
        go_roundw
        case rel => exact ⟨0, dgB d :: rest, false, by omega, rfl, by first | rfl | (rw [cat]; rfl), rfl, HL.out, (fun h => by cases h), fun _ => HS.out, HK.out.alloc _⟩
        case measure => simp [intOf, moreN_true, moreN_false]
end Go.Proofs.YtockkidbncpdlaaDoor

/- ExprWeak's walk, over what the program's Line and Eval are to answer. -/
namespace Go.Proofs.YtockkidbncpdlaaDoor
set_option linter.unusedVariables false
set_option linter.unusedSimpArgs false
open Go.RowKit
def sgV (i : Nat) : Value := .string (strL [sgc i])
def sgRow : Array Value := #[.string ⟨#[124]⟩, .string ⟨#[94]⟩, .string ⟨#[38]⟩, .string ⟨#[43]⟩, .string ⟨#[45]⟩, .string ⟨#[42]⟩]
def lvRow : Array Value := #[.int .i64 0, .int .i64 1, .int .i64 2, .int .i64 4, .int .i64 4, .int .i64 5]
theorem sgRow_at : ∀ i, i < 6 → sgRow[i]? = some (.string (strL [sgc i]))
  | 0, _ => rfl
  | 1, _ => rfl
  | 2, _ => rfl
  | 3, _ => rfl
  | 4, _ => rfl
  | 5, _ => rfl
  | (n + 6), h => absurd h (by omega)
theorem lvRow_at : ∀ i, i < 6 → lvRow[i]? = some (.int .i64 (lvK i))
  | 0, _ => rfl
  | 1, _ => rfl
  | 2, _ => rfl
  | 3, _ => rfl
  | 4, _ => rfl
  | 5, _ => rfl
  | (n + 6), h => absurd h (by omega)
theorem str_one (c : UInt8) (h : c.toNat = 40) : (⟨#[40]⟩ : ByteArray) = strL [40] := rfl
theorem wk1_str (x y z : Nat) (c d : UInt8) : strL (dig x) ++ strL [c] ++ strL (dig y) ++ strL [d] ++ strL (dig z) = strL (wk1 x y z c d) := by
  rw [strL_cat, strL_cat, strL_cat, strL_cat]; congr 1; simp [wk1]
theorem wk2_str (x y z : Nat) (c d : UInt8) : (⟨#[40]⟩ : ByteArray) ++ strL (dig x) ++ strL [c] ++ strL (dig y) ++ ⟨#[41]⟩ ++ strL [d] ++ strL (dig z) = strL (wk2 x y z c d) := by
  show strL [40] ++ strL (dig x) ++ strL [c] ++ strL (dig y) ++ strL [41] ++ strL [d] ++ strL (dig z) = _
  rw [strL_cat, strL_cat, strL_cat, strL_cat, strL_cat, strL_cat]; congr 1; simp [wk2]
theorem wk3_str (x y z : Nat) (c d : UInt8) : strL (dig x) ++ strL [c] ++ (⟨#[40]⟩ : ByteArray) ++ strL (dig y) ++ strL [d] ++ strL (dig z) ++ ⟨#[41]⟩ = strL (wk3 x y z c d) := by
  show strL (dig x) ++ strL [c] ++ strL [40] ++ strL (dig y) ++ strL [d] ++ strL (dig z) ++ strL [41] = _
  rw [strL_cat, strL_cat, strL_cat, strL_cat, strL_cat, strL_cat]; congr 1; simp [wk3]
set_option maxHeartbeats 4000000 in
set_option maxRecDepth 100000 in
theorem exprWeak_walk (hL : PLine) (hE : PEval) (p q x y z : Nat) (hp : p < 256) (hq : q < 256) (hx : x < 256) (hy : y < 256) (hz : z < 256) (w : World) (hP : Pre w) :
    Calls Tryd.prog 4 #[.int .u8 (p : Int), .int .u8 (q : Int), .int .u8 (x : Int), .int .u8 (y : Int), .int .u8 (z : Int)] w fun e w' => e = .returned (.bool true) ∧ Keep w w' := by
  have HP := Lib.hid hP
  have HW := Lib.hid (fun s hs w hP => whole_any hL hE s hs w hP)
  have CK := Lib.hid (known_any hL hE w hP)
  have CX := Lib.hid (fun W => pnum_any x hx W)
  have CY := Lib.hid (fun W => pnum_any y hy W)
  have CZ := Lib.hid (fun W => pnum_any z hz W)
  obtain ⟨i, hi⟩ : ∃ i : Nat, (p : Int) % 6 = (i : Int) := ⟨p % 6, by omega⟩
  obtain ⟨j, hj⟩ : ∃ j : Nat, (q : Int) % 6 = (j : Int) := ⟨q % 6, by omega⟩
  have i6 : i < 6 := by omega
  have j6 : j < 6 := by omega
  obtain ⟨v, A1, A3, A2⟩ := weak_all (i := i) (j := j) i6 j6 hx hy hz
  have V1 := Lib.hid A1
  have V2 := Lib.hid A2
  have V3 := Lib.hid A3
  clear A1 A2 A3
  have w1s : (strL (wk1 x y z (sgc i) (sgc j))).size ≤ 1000 := by
    have a := (dig_ok hx).hi; have b := (dig_ok hy).hi; have c := (dig_ok hz).hi
    rw [strL_size]; simp [wk1]; omega
  have w2s : (strL (wk2 x y z (sgc i) (sgc j))).size ≤ 1000 := by
    have a := (dig_ok hx).hi; have b := (dig_ok hy).hi; have c := (dig_ok hz).hi
    rw [strL_size]; simp [wk2]; omega
  have w3s : (strL (wk3 x y z (sgc i) (sgc j))).size ≤ 1000 := by
    have a := (dig_ok hx).hi; have b := (dig_ok hy).hi; have c := (dig_ok hz).hi
    rw [strL_size]; simp [wk3]; omega
  have C1 := Lib.hid (fun W (h : Pre W) => HW.out (strL (wk1 x y z (sgc i) (sgc j))) w1s W h)
  have C2 := Lib.hid (fun W (h : Pre W) => HW.out (strL (wk2 x y z (sgc i) (sgc j))) w2s W h)
  have C3 := Lib.hid (fun W (h : Pre W) => HW.out (strL (wk3 x y z (sgc i) (sgc j))) w3s W h)
  rw [← wk1_str] at C1
  rw [← wk2_str] at C2
  rw [← wk3_str] at C3
  have e1 := wk1_str x y z (sgc i) (sgc j)
  have e2 := wk2_str x y z (sgc i) (sgc j)
  have e3 := wk3_str x y z (sgc i) (sgc j)
  have D1 : Hid (∀ W, Pre W → Calls Tryd.prog 7 #[.string (strL (dig x) ++ strL [sgc i] ++ strL (dig y) ++ strL [sgc j] ++ strL (dig z))] W fun e w' => e = .returned (.tuple #[.int .i64 v, .bool true]) ∧ Keep W w') := Lib.hid (fun W h => (C1.out W h).mono (fun e w' ⟨a, b⟩ => ⟨a.eq (by rw [e1, strL_list]; exact V1.out), b⟩))
  have D2 : Hid (¬ lvK i < lvK j → ∀ W, Pre W → Calls Tryd.prog 7 #[.string ((⟨#[40]⟩ : ByteArray) ++ strL (dig x) ++ strL [sgc i] ++ strL (dig y) ++ ⟨#[41]⟩ ++ strL [sgc j] ++ strL (dig z))] W fun e w' => e = .returned (.tuple #[.int .i64 v, .bool true]) ∧ Keep W w') := Lib.hid (fun n W h => (C2.out W h).mono (fun e w' ⟨a, b⟩ => ⟨a.eq (by rw [e2, strL_list]; exact V2.out n), b⟩))
  have D3 : Hid (lvK i < lvK j → ∀ W, Pre W → Calls Tryd.prog 7 #[.string (strL (dig x) ++ strL [sgc i] ++ (⟨#[40]⟩ : ByteArray) ++ strL (dig y) ++ strL [sgc j] ++ strL (dig z) ++ ⟨#[41]⟩)] W fun e w' => e = .returned (.tuple #[.int .i64 v, .bool true]) ∧ Keep W w') := Lib.hid (fun n W h => (C3.out W h).mono (fun e w' ⟨a, b⟩ => ⟨a.eq (by rw [e3, strL_list]; exact V3.out n), b⟩))
  have xs : (strL (dig x)).size ≤ 3 := by rw [strL_size]; exact (dig_ok hx).hi
  have ys : (strL (dig y)).size ≤ 3 := by rw [strL_size]; exact (dig_ok hy).hi
  have zs : (strL (dig z)).size ≤ 3 := by rw [strL_size]; exact (dig_ok hz).hi
  have cs : (strL [sgc i]).size = 1 := strL_size _
  have ds : (strL [sgc j]).size = 1 := strL_size _
  have RS := Lib.hid (fun W b (h : Box W b sgRow) => (show W.cell? ⟨b, i, none⟩ = some (.string (strL [sgc i])) from by rw [h.cells]; exact sgRow_at i i6))
  have RT := Lib.hid (fun W b (h : Box W b sgRow) => (show W.cell? ⟨b, j, none⟩ = some (.string (strL [sgc j])) from by rw [h.cells]; exact sgRow_at j j6))
  have RI := Lib.hid (fun W b (h : Box W b lvRow) => (show W.cell? ⟨b, i, none⟩ = some (.int .i64 (lvK i)) from by rw [h.cells]; exact lvRow_at i i6))
  have RJ := Lib.hid (fun W b (h : Box W b lvRow) => (show W.cell? ⟨b, j, none⟩ = some (.int .i64 (lvK j)) from by rw [h.cells]; exact lvRow_at j j6))
  generalize strL (dig x) = X at CX D1 D2 D3 xs
  generalize strL (dig y) = Y at CY D1 D2 D3 ys
  generalize strL (dig z) = Z at CZ D1 D2 D3 zs
  generalize strL [sgc i] = S at D1 D2 D3 cs RS
  generalize strL [sgc j] = T at D1 D2 D3 ds RT
  generalize lvK i = K at D2 D3 RI
  generalize lvK j = M at D2 D3 RJ
  have ib : (i : Int) < 6 := by omega
  have jb : (j : Int) < 6 := by omega
  have i0 : (0 : Int) ≤ (i : Int) := by omega
  have j0 : (0 : Int) ≤ (j : Int) := by omega
  have p0 : (0 : Int) ≤ (p : Int) := by omega
  have q0 : (0 : Int) ≤ (q : Int) := by omega
  have p1 : (p : Int) ≤ 255 := by omega
  have q1 : (q : Int) ≤ 255 := by omega
  clear hP hE hL e1 e2 e3 w1s w2s w3s C1 C2 C3 V1 V2 V3 hp hq hx hy hz i6 j6
  go_enter Tryd.func4, Tryd.ntmps4
  go_wp2_with fail
  refine CK.out.mono ?_
  rintro e w1 ⟨rfl, hk1⟩
  have K1 := Lib.hid hk1
  clear hk1
  go_wp2_with fail
  rw [hi, hj]
  have BS := Lib.hid ((Box.new w1 sgRow 9).alloc (.cells lvRow 3))
  have BL := Lib.hid (Box.new1 w1 (.cells sgRow 9) lvRow 3)
  have K2 := Lib.hid ((K1.out.alloc (.cells sgRow 9)).alloc (.cells lvRow 3))
  unfold sgRow lvRow at BS BL K2
  refine (CX.out _).mono ?_
  rintro e w2 ⟨rfl, hk2⟩
  have BS2 := Lib.hid (BS.out.keep hk2)
  have BL2 := Lib.hid (BL.out.keep hk2)
  have K3 := Lib.hid (K2.out.trans hk2)
  clear hk2 BS BL K2
  go_wp2_with fail
  refine (CY.out _).mono ?_
  rintro e w3 ⟨rfl, hk3⟩
  have BS3 := Lib.hid (BS2.out.keep hk3)
  have BL3 := Lib.hid (BL2.out.keep hk3)
  have K4 := Lib.hid (K3.out.trans hk3)
  clear hk3 BS2 BL2 K3
  go_wp2_with fail
  refine (CZ.out _).mono ?_
  rintro e w4 ⟨rfl, hk4⟩
  have BS4 := Lib.hid (BS3.out.keep hk4)
  have BL4 := Lib.hid (BL3.out.keep hk4)
  have K5 := Lib.hid (K4.out.trans hk4)
  clear hk4 BS3 BL3 K4
  go_wp2_with fail
  refine region_grows (Keep w4) (by kernel_rfl) (by kernel_rfl) (Keep.refl _).drew ?_
  repeat (first
    | (apply text_pass (by rfl)
       go_simp)
    | (apply text_step (by rfl)
       · intro W hW
         have s1 := RS.out W _ (BS4.out.keep hW)
         have s2 := RT.out W _ (BS4.out.keep hW)
         go_simp
         first
          | exact ⟨rfl, hW⟩
          | (rw [if_neg (by omega)]; exact ⟨rfl, hW⟩)
       go_simp))
  apply text_end
  intro w5 hk5
  have BS5 := Lib.hid (BS4.out.keep hk5)
  have BL5 := Lib.hid (BL4.out.keep hk5)
  have K6 := Lib.hid (K5.out.trans hk5)
  clear hk5
  go_wp2_with fail
  by_cases hKM : K < M
  · have cm : (K : Int) < (M : Int) := by omega
    have cm' : decide ((K : Int) < (M : Int)) = true := decide_eq_true cm
    have D := Lib.hid (D3.out hKM)
    refine region_grows (Keep w5) (by kernel_rfl) (by kernel_rfl) (Keep.refl _).drew ?_
    repeat (first
      | (apply text_pass (by rfl)
         go_simp)
      | (apply text_step (by rfl)
         · intro W hW
           have s1 := RS.out W _ (BS5.out.keep hW)
           have s2 := RT.out W _ (BS5.out.keep hW)
           have s3 := RI.out W _ (BL5.out.keep hW)
           have s4 := RJ.out W _ (BL5.out.keep hW)
           go_simp
           first
            | exact ⟨rfl, hW⟩
            | (rw [if_neg (by omega)]; exact ⟨rfl, hW⟩)
         go_simp))
    apply text_end
    intro w6 hk6
    have BS6 := Lib.hid (BS5.out.keep hk6)
    have BL6 := Lib.hid (BL5.out.keep hk6)
    have K7 := Lib.hid (K6.out.trans hk6)
    clear hk6
    go_wp2_with fail
    refine region_grows (Keep w6) (by kernel_rfl) (by kernel_rfl) (Keep.refl _).drew ?_
    repeat (first
      | (apply text_pass (by rfl)
         go_simp)
      | (apply text_step (by rfl)
         · intro W hW
           have s1 := RS.out W _ (BS6.out.keep hW)
           have s2 := RT.out W _ (BS6.out.keep hW)
           have s3 := RI.out W _ (BL6.out.keep hW)
           have s4 := RJ.out W _ (BL6.out.keep hW)
           go_simp
           first
            | exact ⟨rfl, hW⟩
            | (rw [if_neg (by omega)]; exact ⟨rfl, hW⟩)
         go_simp))
    apply text_end
    intro w7 hk7
    have BS7 := Lib.hid (BS6.out.keep hk7)
    have BL7 := Lib.hid (BL6.out.keep hk7)
    have K8 := Lib.hid (K7.out.trans hk7)
    clear hk7
    go_wp2_with fail
    refine region_grows (Keep w7) (by kernel_rfl) (by kernel_rfl) (Keep.refl _).drew ?_
    repeat (first
      | (apply text_pass (by rfl)
         go_simp)
      | (apply text_step (by rfl)
         · intro W hW
           have s1 := RS.out W _ (BS7.out.keep hW)
           have s2 := RT.out W _ (BS7.out.keep hW)
           have s3 := RI.out W _ (BL7.out.keep hW)
           have s4 := RJ.out W _ (BL7.out.keep hW)
           go_simp
           first
            | exact ⟨rfl, hW⟩
            | (rw [if_neg (by omega)]; exact ⟨rfl, hW⟩)
            | (apply yes_enter; go_at_call 7; refine (D1.out _ (HP.out.keep (K8.out.trans hW))).mono ?_; rintro e w' ⟨rfl, hk⟩; exact ⟨rfl, hW.trans hk⟩)
         go_simp))
    apply text_end
    intro w8 hk8
    have BS8 := Lib.hid (BS7.out.keep hk8)
    have BL8 := Lib.hid (BL7.out.keep hk8)
    have K9 := Lib.hid (K8.out.trans hk8)
    clear hk8
    go_wp2_with fail
    refine (D.out _ (HP.out.keep K9.out)).mono ?_
    rintro e w9 ⟨rfl, hk9⟩
    have K10 := Lib.hid (K9.out.trans hk9)
    clear hk9
    go_wp2_with fail
    go_ret
    exact ⟨rfl, K10.out⟩
  · have cm : ¬ (K : Int) < (M : Int) := by omega
    have cm' : decide ((K : Int) < (M : Int)) = false := decide_eq_false cm
    have D := Lib.hid (D2.out hKM)
    refine region_grows (Keep w5) (by kernel_rfl) (by kernel_rfl) (Keep.refl _).drew ?_
    repeat (first
      | (apply text_pass (by rfl)
         go_simp)
      | (apply text_step (by rfl)
         · intro W hW
           have s1 := RS.out W _ (BS5.out.keep hW)
           have s2 := RT.out W _ (BS5.out.keep hW)
           have s3 := RI.out W _ (BL5.out.keep hW)
           have s4 := RJ.out W _ (BL5.out.keep hW)
           go_simp
           first
            | exact ⟨rfl, hW⟩
            | (rw [if_neg (by omega)]; exact ⟨rfl, hW⟩)
         go_simp))
    apply text_end
    intro w6 hk6
    have BS6 := Lib.hid (BS5.out.keep hk6)
    have BL6 := Lib.hid (BL5.out.keep hk6)
    have K7 := Lib.hid (K6.out.trans hk6)
    clear hk6
    go_wp2_with fail
    refine region_grows (Keep w6) (by kernel_rfl) (by kernel_rfl) (Keep.refl _).drew ?_
    repeat (first
      | (apply text_pass (by rfl)
         go_simp)
      | (apply text_step (by rfl)
         · intro W hW
           have s1 := RS.out W _ (BS6.out.keep hW)
           have s2 := RT.out W _ (BS6.out.keep hW)
           have s3 := RI.out W _ (BL6.out.keep hW)
           have s4 := RJ.out W _ (BL6.out.keep hW)
           go_simp
           first
            | exact ⟨rfl, hW⟩
            | (rw [if_neg (by omega)]; exact ⟨rfl, hW⟩)
            | (apply yes_enter; go_at_call 7; refine (D1.out _ (HP.out.keep (K7.out.trans hW))).mono ?_; rintro e w' ⟨rfl, hk⟩; exact ⟨rfl, hW.trans hk⟩)
         go_simp))
    apply text_end
    intro w7 hk7
    have BS7 := Lib.hid (BS6.out.keep hk7)
    have BL7 := Lib.hid (BL6.out.keep hk7)
    have K8 := Lib.hid (K7.out.trans hk7)
    clear hk7
    go_wp2_with fail
    refine (D.out _ (HP.out.keep K8.out)).mono ?_
    rintro e w8 ⟨rfl, hk8⟩
    have K9 := Lib.hid (K8.out.trans hk8)
    clear hk8
    go_wp2_with fail
    go_ret
    exact ⟨rfl, K9.out⟩
theorem exprWeak_int (hL : PLine) (hE : PEval) (p q x y z : Int) (hp : 0 ≤ p ∧ p ≤ 255) (hq : 0 ≤ q ∧ q ≤ 255) (hx : 0 ≤ x ∧ x ≤ 255) (hy : 0 ≤ y ∧ y ≤ 255) (hz : 0 ≤ z ∧ z ≤ 255) (w : World) (hP : Pre w) :
    Calls Tryd.prog 4 #[.int .u8 p, .int .u8 q, .int .u8 x, .int .u8 y, .int .u8 z] w fun e w' => e = .returned (.bool true) ∧ Keep w w' := by
  have h := exprWeak_walk hL hE p.toNat q.toNat x.toNat y.toNat z.toNat (by omega) (by omega) (by omega) (by omega) (by omega) w hP
  rwa [Int.toNat_of_nonneg hp.1, Int.toNat_of_nonneg hq.1, Int.toNat_of_nonneg hx.1, Int.toNat_of_nonneg hy.1, Int.toNat_of_nonneg hz.1] at h
end Go.Proofs.YtockkidbncpdlaaDoor
