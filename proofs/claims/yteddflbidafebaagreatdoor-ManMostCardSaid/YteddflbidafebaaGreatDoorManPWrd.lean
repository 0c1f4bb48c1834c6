/- The program's words, number, perm. -/
import Derived.Test.YteddflbidafebaaGreatDoorManPRoom
import Derived.Test.YteddflbidafebaaGreatDoorManSplit
import Derived.Test.YteddflbidafebaaGreatDoorShelf
import Derived.Shelf.Strings.SlTrimAscii
namespace Go.Proofs.YteddflbidafebaaGreatDoor
set_option linter.unusedVariables false
set_option linter.unusedSimpArgs false
open Go.RowKit Go.Shelf
/-- What is laid ahead of a call of man's: some number for the longest text that is sought by hand, some error for what is out of range. -/
def MaxL (w : World) : Prop := ∃ n, w.cell? ⟨1, 0, none⟩ = some (.int .i64 n)
def RngV (w : World) : Prop := ∃ ev, w.cell? ⟨4, 0, none⟩ = some ev ∧ (ev = .nilIface ∨ ∃ te pe, ev = .iface te pe)
theorem MaxL.keep {w w' : World} (h : MaxL w) (k : Keep w w') : MaxL w' := h.elim fun n hn => ⟨n, k.cellOf hn⟩
theorem RngV.keep {w w' : World} (h : RngV w) (k : Keep w w') : RngV w' := h.elim fun n hn => ⟨n, k.cellOf hn.1, hn.2⟩
theorem mclone_any (s : ByteArray) (hs : s.size ≤ 100000) (w : World) : Calls Tryz.prog 57 #[.string s] w fun e w' => e = .returned (.string s) ∧ Keep w w' := by
  have C := Lib.hid (Tryz.stringslite_Clone s w (by omega))
  clear hs
  go_enter Tryz.func57, Tryz.ntmps57
  go_wp2_with fail
  refine C.out.mono ?_
  rintro e w1 ⟨rfl, hk⟩
  have HK : Hid (Keep w w1) := Lib.hid hk
  clear hk C
  go_wp2_with fail
  go_ret
  exact ⟨rfl, HK.out⟩
/-- What words answers. -/
def WordsR (w : World) (n : Nat) (e : Ending) (w' : World) : Option (List (List UInt8)) → Prop
  | none => Keep w w' ∧ ∃ v, e = .returned (.tuple #[v, .bool false])
  | some ws => Keep w w' ∧ ∃ g cap, e = .returned (.tuple #[.slice (some ⟨g, 0, none⟩) n cap, .bool true]) ∧ n ≤ cap ∧ w.heap.size ≤ g ∧ ∀ (j : Nat) x, ws[j]? = some x → w'.cell? ⟨g, j, none⟩ = some (.string (bsL x))
theorem bs_data (l : List UInt8) : (bsL l).data.toList = l := rfl
theorem bs_size (l : List UInt8) : (bsL l).size = l.length := rfl
theorem bs_of {s : ByteArray} {l : List UInt8} (h : s.data.toList = l) : s = bsL l := by
  apply ByteArray.ext
  apply Array.ext'
  exact h
/-- The cells of what SplitN makes. -/
theorem split_cell {d : List ByteArray} {N j : Nat} {x : List UInt8} (h : (d.map (·.data.toList))[j]? = some x) : (Lib.cellsOf d N)[j]? = some (.string (bsL x)) := by
  rw [List.getElem?_map] at h
  cases e : d[j]? with
  | none => rw [e] at h; cases h
  | some y =>
    rw [e] at h
    simp only [Option.map_some, Option.some.injEq] at h
    have hj := (List.getElem?_eq_some_iff.1 e).1
    unfold Lib.cellsOf
    rw [List.getElem?_toArray, List.getElem?_append_left (by simpa using hj), List.getElem?_map, e, ← bs_of h]
    rfl
set_option maxHeartbeats 4000000 in
set_option maxRecDepth 100000 in
theorem mwords_any (s kd : ByteArray) (n : Nat) (hn : n = 2 ∨ n = 3) (hs : s.size ≤ 10000) (hkd : kd.size ≤ 100) (w : World) (hM : MaxL w) (res : Option (List (List UInt8)))
    (hno : Lib.hasPrefix s.data.toList (kd.data.toList ++ [32]) = false ∨ Lib.hasSuffix (Lib.trimPrefix s.data.toList (kd.data.toList ++ [32])) [10] = false → res = none)
    (hyes : Lib.hasPrefix s.data.toList (kd.data.toList ++ [32]) = true → Lib.hasSuffix (Lib.trimPrefix s.data.toList (kd.data.toList ++ [32])) [10] = true → res = if (splitB 32 (Lib.trimSuffix (Lib.trimPrefix s.data.toList (kd.data.toList ++ [32])) [10])).length = n then some (splitB 32 (Lib.trimSuffix (Lib.trimPrefix s.data.toList (kd.data.toList ++ [32])) [10])) else none) :
    Calls Tryz.prog 33 #[.string s, .string kd, .int .i64 (n : Int)] w fun e w' => WordsR w n e w' res := by
  obtain ⟨p, hp⟩ : ∃ p : ByteArray, p = kd ++ ⟨#[32]⟩ := ⟨_, rfl⟩
  have ep : p.data.toList = kd.data.toList ++ [32] := by rw [hp]; simp
  have C1 := Lib.hid (fun W => (Tryz.strings_CutPrefix s p W).mono fun e w' (h : _ ∧ w' = W) => And.intro h.1 h.2.symm)
  obtain ⟨a, ha⟩ : ∃ a, a = Lib.trimPrefix s.data.toList (kd.data.toList ++ [32]) := ⟨_, rfl⟩
  obtain ⟨b1, hb1⟩ : ∃ b1, b1 = Lib.hasPrefix s.data.toList (kd.data.toList ++ [32]) := ⟨_, rfl⟩
  rw [ep, ← ha, ← hb1] at C1
  have hal : a.length ≤ 10000 := by
    rw [ha]
    have hsl : s.data.toList.length ≤ 10000 := by rw [Array.length_toList]; exact hs
    unfold Lib.trimPrefix
    split
    · rw [List.length_drop]; omega
    · exact hsl
  rw [← ha, ← hb1] at hno hyes
  have C2 := Lib.hid (fun W => (Tryz.strings_CutSuffix (bsL a) ⟨#[10]⟩ W (by rw [bs_size]; omega)).mono fun e w' (h : _ ∧ w' = W) => And.intro h.1 h.2.symm)
  have e10 : (⟨#[10]⟩ : ByteArray).data.toList = [10] := rfl
  rw [bs_data, e10] at C2
  obtain ⟨l, hl⟩ : ∃ l, l = Lib.trimSuffix a [10] := ⟨_, rfl⟩
  obtain ⟨b2, hb2⟩ : ∃ b2, b2 = Lib.hasSuffix a [10] := ⟨_, rfl⟩
  rw [← hl, ← hb2] at C2 hyes
  rw [← hb2] at hno
  have hll : l.length ≤ 10000 := by
    rw [hl]
    unfold Lib.trimSuffix
    split
    · rw [List.length_take]; omega
    · exact hal
  have C3 := Lib.hid (fun W => mclone_any (bsL l) (by rw [bs_size]; omega) W)
  have SK := Lib.hid (splitK_words 32 n l (by omega))
  have SB := Lib.hid (Lib.splitB_data ⟨#[32]⟩ 0 (min (n + 1) (l.length + 1) - 1) (bsL l))
  rw [bs_data, show (⟨#[32]⟩ : ByteArray).data.toList = [32] from rfl] at SB
  have HM := Lib.hid hM
  have C4 := Lib.hid (fun W (k : Keep w W) => (hM.keep k).elim fun m hm => Tryz.strings_SplitN (bsL l) ⟨#[32]⟩ (n + 1) m W (by rw [bs_size]; omega) hm (by decide) (by omega) (by omega))
  rw [bs_size] at C4
  obtain ⟨d, hd⟩ : ∃ d, d = Lib.splitB ⟨#[32]⟩ 0 (min (n + 1) (l.length + 1) - 1) (bsL l) := ⟨_, rfl⟩
  rw [← hd] at C4 SB
  obtain ⟨cp, hcp⟩ : ∃ cp, cp = min (n + 1) (l.length + 1) := ⟨_, rfl⟩
  rw [← hcp] at C4
  have hdl : d.length ≤ cp := by
    rw [hd, hcp]
    have := Lib.splitB_length_le ⟨#[32]⟩ 0 (min (n + 1) (l.length + 1) - 1) (bsL l)
    omega
  have hcl : cp ≤ 4 := by omega
  have HD := Lib.hid hdl
  have hdn : d.length ≤ 4 := by omega
  have hnn : n ≤ 3 := by omega
  subst hp
  have HNO := Lib.hid hno
  have HYES := Lib.hid hyes
  clear ha hb1 hl hb2 hd hcp hM hno hyes ep e10 hdl hn hs
  go_enter Tryz.func33, Tryz.ntmps33
  go_wp2_with fail
  refine (C1.out _).mono ?_
  rintro e w' ⟨rfl, rfl⟩
  go_wp2_with fail
  refine (C2.out _).mono ?_
  rintro e w' ⟨rfl, rfl⟩
  cases b1 with
  | false =>
    obtain rfl : res = none := HNO.out (.inl rfl)
    go_wp2_with fail
    go_ret2
    exact ⟨Keep.refl _, _, rfl⟩
  | true =>
    cases b2 with
    | false =>
      obtain rfl : res = none := HNO.out (.inr rfl)
      go_wp2_with fail
      go_ret2
      exact ⟨Keep.refl _, _, rfl⟩
    | true =>
      have HY := Lib.hid (HYES.out rfl rfl)
      clear HNO HYES
      go_wp2_with fail
      refine (C3.out _).mono ?_
      rintro e w1 ⟨rfl, hk1⟩
      have C5 := Lib.hid (C4.out w1 hk1)
      have K1 := Lib.hid hk1
      clear hk1 C4
      have wn : IntKind.i64.wrap ((n : Int) + 1) = (n : Int) + 1 := by rw [IntKind.wrap_i64]; omega
      go_wp2_with fail
      refine C5.out.mono ?_
      rintro e w2 ⟨rfl, hw2⟩
      have KB : Hid (Keep w w2) := Lib.hid (by rw [hw2]; exact K1.out.alloc _)
      have BB : Hid (Box w2 w1.heap.size (Lib.cellsOf d cp)) := Lib.hid (by rw [hw2]; exact Box.new _ _ _)
      clear hw2 C5
      by_cases hq : d.length = n
      · have hq2 : ((d.length : Int) == (n : Int)) = true := by simp [hq]
        have hq3 : (splitB 32 l).length = n := by
          have := SK.out.1
          rw [← SB.out, List.length_map] at this
          exact this.1 hq
        have HR : Hid (res = some (splitB 32 l)) := Lib.hid (HY.out.trans (if_pos hq3))
        have HSB : Hid (d.map (·.data.toList) = splitB 32 l) := Lib.hid (SB.out.trans (SK.out.2 hq3))
        have HQ := Lib.hid hq
        have hcap : Hid (n ≤ cp) := Lib.hid (by have := HD.out; omega)
        clear hq hq3
        go_wp2_with fail
        go_ret2
        rw [HR.out]
        refine ⟨KB.out, w1.heap.size, cp, by rw [← HQ.out]; rfl, hcap.out, K1.out.size, fun j x hx => ?_⟩
        rw [BB.out.cells]
        exact split_cell (by rw [HSB.out]; exact hx)
      · have hq2 : ((d.length : Int) == (n : Int)) = false := beq_eq_false_iff_ne.2 (by omega)
        have hq3 : ¬ (splitB 32 l).length = n := by
          have := SK.out.1
          rw [← SB.out, List.length_map] at this
          exact fun h => hq (this.2 h)
        have HR : Hid (res = none) := Lib.hid (HY.out.trans (if_neg hq3))
        clear hq hq3
        go_wp2_with fail
        go_ret2
        rw [HR.out]
        exact ⟨KB.out, _, rfl⟩
/-- A line with its end. -/
theorem mwords_line (l kd : List UInt8) (n : Nat) (hn : n = 2 ∨ n = 3) (h10 : ∀ x ∈ l, x ≠ 10) (hl : l.length ≤ 5000) (hk : ∀ x ∈ kd, x ≠ 32) (hkl : kd.length ≤ 100) (w : World) (hM : MaxL w) :
    Calls Tryz.prog 33 #[.string (bsL (l ++ [10])), .string (bsL kd), .int .i64 (n : Int)] w fun e w' => WordsR w n e w' (lineWords kd n l) := by
  refine mwords_any _ _ n hn (by rw [bs_size]; simp; omega) (by rw [bs_size]; omega) w hM _ ?_ ?_
  · rw [bs_data, bs_data]
    intro h
    by_cases hp : ∃ l', l = kd ++ 32 :: l'
    · exfalso
      have h1 := (pre_line (kind := kd) h10).2 hp
      obtain ⟨l', rfl⟩ := hp
      rcases h with h | h
      · rw [h1] at h; cases h
      · rw [pre_cut, suf_line] at h; cases h
    · exact lineWords_not (by omega) hp
  · rw [bs_data, bs_data]
    intro h1 _
    obtain ⟨l', rfl⟩ := (pre_line (kind := kd) h10).1 h1
    rw [pre_cut, suf_cut, lineWords_pre hk]
/-- What has no end is no line. -/
theorem mwords_open (l kd : List UInt8) (n : Nat) (hn : n = 2 ∨ n = 3) (h10 : ∀ x ∈ l, x ≠ 10) (hl : l.length ≤ 5000) (hkl : kd.length ≤ 100) (w : World) (hM : MaxL w) :
    Calls Tryz.prog 33 #[.string (bsL l), .string (bsL kd), .int .i64 (n : Int)] w fun e w' => WordsR w n e w' none := by
  refine mwords_any _ _ n hn (by rw [bs_size]; omega) (by rw [bs_size]; omega) w hM _ (fun _ => rfl) ?_
  rw [bs_data, bs_data]
  intro _ h
  rw [suf_no (fun x hx => h10 x (trimPre_mem hx))] at h
  cases h
end Go.Proofs.YteddflbidafebaaGreatDoor
