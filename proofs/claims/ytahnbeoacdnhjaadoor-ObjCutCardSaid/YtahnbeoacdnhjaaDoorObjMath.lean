/- Objects, plain: one in bytes is read back to the end; what is read goes on alike with more behind; so no cut is one, nor one with a byte more. -/
import Derived.Test.YtahnbeoacdnhjaaDoorObjTab
namespace Go.Proofs.YtahnbeoacdnhjaaDoor
set_option linter.unusedVariables false
set_option linter.unusedSimpArgs false
open Go.RowKit
/-- What is read of some bytes is read with more behind. -/
def Mono {α : Type} (f : List Nat → Nat → Rd α) : Prop := ∀ (l x : List Nat) (at_ : Nat) (v : α) (p : Nat), f l at_ = .ok (v, p) → f (l ++ x) at_ = .ok (v, p)
theorem take_mono (n : Nat) : Mono fun l at_ => takeR l n at_ := by
  intro l x at_ v p h
  simp only [takeR] at h ⊢
  split at h
  · rename_i hn
    rw [if_pos (by rw [List.length_append]; omega)]
    simp only [Except.ok.injEq, Prod.mk.injEq] at h
    obtain ⟨rfl, rfl⟩ := h
    simp only [Except.ok.injEq, Prod.mk.injEq, and_true]
    rw [List.drop_append_of_le_length (by omega), List.take_append_of_le_length (by rw [List.length_drop]; omega)]
  · cases h
theorem then_ok {α β : Type} {x : Rd α} {f : α → Nat → Rd β} {v : β} {p : Nat} (h : thenR x f = .ok (v, p)) : ∃ a q, x = .ok (a, q) ∧ f a q = .ok (v, p) := by
  unfold thenR at h
  split at h
  · cases h
  · exact ⟨_, _, rfl, h⟩
theorem then_eq {α β : Type} {x : Rd α} {f : α → Nat → Rd β} {a : α} {q : Nat} (h : x = .ok (a, q)) : thenR x f = f a q := by subst h; rfl
theorem then_mono {α β : Type} {f : List Nat → Nat → Rd α} {g : List Nat → α → Nat → Rd β} (hf : Mono f) (hg : ∀ a, Mono fun l p => g l a p) : Mono fun l at_ => thenR (f l at_) (g l) := by
  intro l x at_ v p h
  obtain ⟨a, q, h1, h2⟩ := then_ok h
  simp only
  rw [then_eq (hf l x at_ a q h1)]
  exact hg a l x q v p h2
theorem ok_mono {α : Type} (v : α) : Mono fun _ p => (.ok (v, p) : Rd α) := fun _ _ _ _ _ h => h
theorem if_mono {α : Type} (c : Prop) [Decidable c] (e : Int × Int) {f : List Nat → Nat → Rd α} (hf : Mono f) : Mono fun l p => if c then .error e else f l p := by
  intro l x at_ v p h
  simp only at h ⊢
  split at h
  · cases h
  · rename_i hc
    rw [if_neg hc]
    exact hf l x at_ v p h
theorem head_mono (h : List Nat) : Mono fun l at_ => headR l h at_ :=
  then_mono (take_mono 4) fun b l x at_ v p hh => by
    simp only at hh ⊢
    split at hh
    · rename_i hc; rw [if_pos hc]; exact hh
    · cases hh
theorem byte_mono : Mono byteR := then_mono (take_mono 1) fun b => ok_mono _
theorem num_mono : Mono numR := then_mono (take_mono 4) fun b => ok_mono _
theorem str_mono : Mono strR := then_mono byte_mono fun n => then_mono (take_mono n) fun b => ok_mono _
theorem most_mono (m : Nat) (e : Int) : Mono fun l at_ => mostR l m e at_ := by
  intro l x at_ v p h
  simp only [mostR] at h ⊢
  obtain ⟨a, q, h1, h2⟩ := then_ok h
  rw [then_eq (num_mono l x at_ a q h1)]
  split at h2
  · cases h2
  · rename_i hc; rw [if_neg hc]; exact h2
theorem upto_mono (a b : Nat) : Mono fun l at_ => uptoR l a b at_ := by
  intro l x at_ v p h
  simp only [uptoR] at h ⊢
  obtain ⟨n, q, h1, h2⟩ := then_ok h
  rw [then_eq (byte_mono l x at_ n q h1)]
  split at h2
  · cases h2
  · rename_i hc; rw [if_neg hc]; exact h2
theorem sym_mono : Mono symR := then_mono str_mono fun _ => then_mono (upto_mono 0 3) fun _ => then_mono num_mono fun _ => ok_mono _
theorem rel_mono : Mono relR := then_mono (upto_mono 1 3) fun _ => then_mono num_mono fun _ => then_mono str_mono fun _ => then_mono str_mono fun _ => then_mono (most_mono 65535 11) fun _ => ok_mono _
theorem many_mono {α : Type} {f : List Nat → Nat → Rd α} (hf : Mono f) : ∀ (n : Nat), Mono fun l at_ => manyR (f l) n at_
  | 0 => fun _ _ _ _ _ h => h
  | n + 1 => then_mono hf fun _ => then_mono (many_mono hf n) fun _ => ok_mono _
theorem obj_mono : Mono fun l (_ : Nat) => objR l := by
  have h : Mono fun l (at_ : Nat) => thenR (headR l hobj at_) fun _ p => thenR (strR l p) fun name p => thenR (mostR l 16384 15 p) fun n p => thenR (takeR l n p) fun code p =>
      thenR (mostR l 16384 15 p) fun n p => thenR (takeR l n p) fun data p => thenR (mostR l 256 15 p) fun n p => thenR (manyR (symR l) n p) fun syms p =>
      thenR (mostR l 256 15 p) fun n p => thenR (manyR (relR l) n p) fun rels p => (.ok ((⟨name, code, data, syms, rels⟩ : ObjV), p) : Rd ObjV) :=
    then_mono (head_mono hobj) fun _ => then_mono str_mono fun _ => then_mono (most_mono 16384 15) fun n => then_mono (take_mono n) fun _ => then_mono (most_mono 16384 15) fun n => then_mono (take_mono n) fun _ =>
      then_mono (most_mono 256 15) fun n => then_mono (many_mono sym_mono n) fun _ => then_mono (most_mono 256 15) fun n => then_mono (many_mono rel_mono n) fun _ => ok_mono _
  exact fun l x _ v p hh => h l x 0 v p hh
/-- What is read lies within. -/
def Bnd {α : Type} (f : List Nat → Nat → Rd α) : Prop := ∀ (l : List Nat) (at_ : Nat) (v : α) (p : Nat), at_ ≤ l.length → f l at_ = .ok (v, p) → p ≤ l.length
theorem take_bnd (n : Nat) : Bnd fun l at_ => takeR l n at_ := by
  intro l at_ v p ha h
  simp only [takeR] at h
  split at h
  · simp only [Except.ok.injEq, Prod.mk.injEq] at h
    omega
  · cases h
theorem then_bnd {α β : Type} {f : List Nat → Nat → Rd α} {g : List Nat → α → Nat → Rd β} (hf : Bnd f) (hg : ∀ a, Bnd fun l p => g l a p) : Bnd fun l at_ => thenR (f l at_) (g l) := by
  intro l at_ v p ha h
  obtain ⟨a, q, h1, h2⟩ := then_ok h
  exact hg a l q v p (hf l at_ a q ha h1) h2
theorem ok_bnd {α : Type} (v : α) : Bnd fun _ p => (.ok (v, p) : Rd α) := fun _ _ _ _ ha h => by
  simp only [Except.ok.injEq, Prod.mk.injEq] at h
  omega
theorem if_bnd {α : Type} {c : Prop} [Decidable c] {e : Int × Int} {v w : α} {p q : Nat} (h : (if c then .error e else .ok (v, p) : Rd α) = .ok (w, q)) : p = q := by
  split at h
  · cases h
  · simp only [Except.ok.injEq, Prod.mk.injEq] at h; exact h.2
theorem head_bnd (h : List Nat) : Bnd fun l at_ => headR l h at_ := then_bnd (take_bnd 4) fun b l at_ v p ha hh => by
  simp only at hh
  split at hh
  · simp only [Except.ok.injEq, Prod.mk.injEq] at hh; omega
  · cases hh
theorem byte_bnd : Bnd byteR := then_bnd (take_bnd 1) fun b => ok_bnd _
theorem num_bnd : Bnd numR := then_bnd (take_bnd 4) fun b => ok_bnd _
theorem str_bnd : Bnd strR := then_bnd byte_bnd fun n => then_bnd (take_bnd n) fun b => ok_bnd _
theorem most_bnd (m : Nat) (e : Int) : Bnd fun l at_ => mostR l m e at_ := by
  intro l at_ v p ha h
  obtain ⟨n, q, h1, h2⟩ := then_ok h
  have := if_bnd h2
  have := num_bnd l at_ n q ha h1
  omega
theorem upto_bnd (a b : Nat) : Bnd fun l at_ => uptoR l a b at_ := by
  intro l at_ v p ha h
  obtain ⟨n, q, h1, h2⟩ := then_ok h
  have := if_bnd h2
  have := byte_bnd l at_ n q ha h1
  omega
theorem sym_bnd : Bnd symR := then_bnd str_bnd fun _ => then_bnd (upto_bnd 0 3) fun _ => then_bnd num_bnd fun _ => ok_bnd _
theorem rel_bnd : Bnd relR := then_bnd (upto_bnd 1 3) fun _ => then_bnd num_bnd fun _ => then_bnd str_bnd fun _ => then_bnd str_bnd fun _ => then_bnd (most_bnd 65535 11) fun _ => ok_bnd _
theorem many_bnd {α : Type} {f : List Nat → Nat → Rd α} (hf : Bnd f) : ∀ (n : Nat), Bnd fun l at_ => manyR (f l) n at_
  | 0 => fun _ _ _ _ ha h => by simp only [manyR, Except.ok.injEq, Prod.mk.injEq] at h; omega
  | n + 1 => then_bnd hf fun _ => then_bnd (many_bnd hf n) fun _ => ok_bnd _
theorem obj_bnd {l : List Nat} {v : ObjV} {p : Nat} (h : objR l = .ok (v, p)) : p ≤ l.length := by
  have hb : Bnd fun l (at_ : Nat) => thenR (headR l hobj at_) fun _ p => thenR (strR l p) fun name p => thenR (mostR l 16384 15 p) fun n p => thenR (takeR l n p) fun code p =>
      thenR (mostR l 16384 15 p) fun n p => thenR (takeR l n p) fun data p => thenR (mostR l 256 15 p) fun n p => thenR (manyR (symR l) n p) fun syms p =>
      thenR (mostR l 256 15 p) fun n p => thenR (manyR (relR l) n p) fun rels p => (.ok ((⟨name, code, data, syms, rels⟩ : ObjV), p) : Rd ObjV) :=
    then_bnd (head_bnd hobj) fun _ => then_bnd str_bnd fun _ => then_bnd (most_bnd 16384 15) fun n => then_bnd (take_bnd n) fun _ => then_bnd (most_bnd 16384 15) fun n => then_bnd (take_bnd n) fun _ =>
      then_bnd (most_bnd 256 15) fun n => then_bnd (many_bnd sym_bnd n) fun _ => then_bnd (most_bnd 256 15) fun n => then_bnd (many_bnd rel_bnd n) fun _ => ok_bnd _
  exact hb l 0 v p (Nat.zero_le _) h
/-! ### One that is written is read -/
/-- What stands at a place: some bytes, then more. -/
def At (l : List Nat) (p : Nat) (b : List Nat) : Prop := ∃ a c, l = a ++ (b ++ c) ∧ a.length = p
theorem At.split {l : List Nat} {p : Nat} {b c : List Nat} (h : At l p (b ++ c)) : At l p b ∧ At l (p + b.length) c := by
  obtain ⟨a, d, rfl, rfl⟩ := h
  exact ⟨⟨a, c ++ d, by simp, rfl⟩, ⟨a ++ b, d, by simp, by simp⟩⟩
theorem At.take {l : List Nat} {p : Nat} {b : List Nat} (h : At l p b) : takeR l b.length p = .ok (b, p + b.length) := by
  obtain ⟨a, d, rfl, rfl⟩ := h
  unfold takeR
  rw [if_pos (by simp)]
  simp
theorem At.byte {l : List Nat} {p n : Nat} (h : At l p [n]) : byteR l p = .ok (n, p + 1) := by
  have e : takeR l 1 p = .ok ([n], p + 1) := h.take
  unfold byteR
  rw [then_eq e]
  rfl
theorem At.num {l : List Nat} {p n : Nat} (h : At l p (num4 n)) (hn : n < 4294967296) : numR l p = .ok (n, p + 4) := by
  have e : takeR l 4 p = .ok (num4 n, p + 4) := h.take
  unfold numR
  rw [then_eq e]
  simp only [num4, word4, Except.ok.injEq, Prod.mk.injEq, and_true]
  simp only [List.getD_cons_zero, List.getD_cons_succ]
  omega
theorem bytes_back (s : ByteArray) : (⟨((s.data.toList.map UInt8.toNat).map UInt8.ofNat).toArray⟩ : ByteArray) = s := by
  have e : (s.data.toList.map UInt8.toNat).map UInt8.ofNat = s.data.toList := by
    rw [List.map_map]
    conv => rhs; rw [← List.map_id s.data.toList]
    exact List.map_congr_left fun c _ => by simp
  rw [e]
theorem At.str {l : List Nat} {p : Nat} {s : ByteArray} (h : At l p (strB s)) : strR l p = .ok (s, p + (strB s).length) := by
  obtain ⟨h1, h2⟩ := At.split (b := [s.size]) h
  simp only [List.length_cons, List.length_nil, Nat.zero_add] at h2
  unfold strR
  rw [then_eq h1.byte]
  have h3 := h2.take
  have e : (s.data.toList.map UInt8.toNat).length = s.size := by simp
  rw [e] at h3
  rw [then_eq h3, bytes_back]
  have e2 : p + 1 + s.size = p + (strB s).length := by simp [strB]; omega
  rw [e2]
theorem At.most {l : List Nat} {p n m : Nat} {e : Int} (h : At l p (num4 n)) (hm : n ≤ m) (h32 : m < 4294967296) : mostR l m e p = .ok (n, p + 4) := by
  unfold mostR
  rw [then_eq (h.num (by omega)), if_neg (by omega)]
theorem At.upto {l : List Nat} {p n a b : Nat} (h : At l p [n]) (h1 : a ≤ n) (h2 : n ≤ b) : uptoR l a b p = .ok (n, p + 1) := by
  unfold uptoR
  rw [then_eq h.byte, if_neg (by omega)]
theorem num4_length (n : Nat) : (num4 n).length = 4 := rfl
theorem At.split4 {l : List Nat} {p n : Nat} {c : List Nat} (h : At l p (num4 n ++ c)) : At l p (num4 n) ∧ At l (p + 4) c := At.split h
theorem At.split1 {l : List Nat} {p n : Nat} {c : List Nat} (h : At l p (n :: c)) : At l p [n] ∧ At l (p + 1) c := At.split (b := [n]) h
/-- What may be written of a symbol, of a relocation. -/
def SymOk (s : SymV) : Prop := 0 ≤ s.off ∧ s.off < 4294967296
def RelOk (r : RelV) : Prop := 1 ≤ r.kind ∧ r.kind ≤ 3 ∧ 0 ≤ r.off ∧ r.off < 4294967296 ∧ 0 ≤ r.perm ∧ r.perm < 65536
theorem At.sym {l : List Nat} {p : Nat} {s : SymV} (hs : SymOk s) (h : At l p (symB s)) : symR l p = .ok (s, p + (symB s).length) := by
  obtain ⟨h1, h2⟩ := At.split h
  obtain ⟨h3, h4⟩ := At.split1 (c := num4 s.off.toNat) h2
  obtain ⟨o0, o1⟩ := hs
  have f3 : flagB s ≤ 3 := by unfold flagB; split <;> split <;> omega
  unfold symR
  rw [then_eq h1.str, then_eq (h3.upto (Nat.zero_le _) f3), then_eq (h4.num (by omega))]
  have e : p + (strB s.name).length + 1 + 4 = p + (symB s).length := by simp only [symB, List.length_append, List.length_cons, num4_length]; omega
  obtain ⟨nm, d, o, x⟩ := s
  simp only at o0 o1
  simp only [Except.ok.injEq, Prod.mk.injEq, SymV.mk.injEq, true_and]
  refine ⟨⟨?_, by omega, ?_⟩, e⟩
  · cases d <;> cases x <;> simp [flagB]
  · cases d <;> cases x <;> simp [flagB]
theorem At.rel {l : List Nat} {p : Nat} {r : RelV} (hr : RelOk r) (h : At l p (relB r)) : relR l p = .ok (r, p + (relB r).length) := by
  obtain ⟨k0, k1, o0, o1, p0, p1⟩ := hr
  obtain ⟨h1, h⟩ := At.split1 (c := num4 r.off.toNat ++ (strB r.comp ++ (strB r.name ++ num4 r.perm.toNat))) h
  obtain ⟨h2, h⟩ := At.split4 (c := strB r.comp ++ (strB r.name ++ num4 r.perm.toNat)) h
  obtain ⟨h3, h⟩ := At.split (b := strB r.comp) (c := strB r.name ++ num4 r.perm.toNat) h
  obtain ⟨h4, h5⟩ := At.split (b := strB r.name) (c := num4 r.perm.toNat) h
  unfold relR
  rw [then_eq (h1.upto (by omega) (by omega)), then_eq (h2.num (by omega)), then_eq h3.str, then_eq h4.str, then_eq (h5.most (by omega) (by decide))]
  have e : p + 1 + 4 + (strB r.comp).length + (strB r.name).length + 4 = p + (relB r).length := by simp only [relB, List.length_append, List.length_cons, List.length_nil, num4_length]; omega
  obtain ⟨k, o, c, n, m⟩ := r
  simp only at k0 k1 o0 o1 p0 p1
  simp only [Except.ok.injEq, Prod.mk.injEq, RelV.mk.injEq, true_and]
  exact ⟨⟨by omega, by omega, by omega⟩, e⟩
theorem many_read {α : Type} {f : Nat → Rd α} {g : α → List Nat} {l : List Nat} : ∀ (xs : List α) (p : Nat), (∀ x ∈ xs, ∀ p, At l p (g x) → f p = .ok (x, p + (g x).length)) → At l p (xs.flatMap g) → manyR f xs.length p = .ok (xs, p + (xs.flatMap g).length)
  | [], p, _, _ => rfl
  | x :: xs, p, hf, h => by
    rw [List.flatMap_cons] at h
    obtain ⟨h1, h2⟩ := At.split h
    have e1 := hf x (by simp) p h1
    have e2 := many_read xs (p + (g x).length) (fun y hy => hf y (by simp [hy])) h2
    simp only [List.length_cons, manyR]
    rw [then_eq e1, then_eq e2]
    simp only [List.flatMap_cons, List.length_append, Except.ok.injEq, Prod.mk.injEq, true_and]
    omega
/-- One that may be, and whose numbers are such. -/
structure ObjOk (o : ObjV) : Prop where
  code : o.code.length ≤ 16384
  data : o.data.length ≤ 16384
  nsyms : o.syms.length ≤ 256
  nrels : o.rels.length ≤ 256
  syms : ∀ s ∈ o.syms, SymOk s
  rels : ∀ r ∈ o.rels, RelOk r
theorem obj_read {o : ObjV} (ho : ObjOk o) : objR (encL o) = .ok (o, (encL o).length) := by
  have h : At (encL o) 0 (encL o) := ⟨[], [], by simp, rfl⟩
  obtain ⟨c0, c1, c2, c3, c4, c5⟩ := ho
  have h0 := h
  conv at h => rhs; unfold encL
  have hs1 := At.split h
  have hh := hs1.1
  have h := hs1.2
  rw [show 0 + hobj.length = 4 from rfl] at h
  have hs2 := At.split h
  have hn := hs2.1
  have hs3 := At.split4 hs2.2
  have hcl := hs3.1
  have hs4 := At.split hs3.2
  have hc := hs4.1
  have hs5 := At.split4 hs4.2
  have hdl := hs5.1
  have hs6 := At.split hs5.2
  have hd := hs6.1
  have hs7 := At.split4 hs6.2
  have hsl := hs7.1
  have hs8 := At.split hs7.2
  have hs := hs8.1
  have hs9 := At.split4 hs8.2
  have hrl := hs9.1
  have hr := hs9.2
  unfold objR
  have e0 : headR (encL o) hobj 0 = .ok ((), 4) := by
    have e : takeR (encL o) 4 0 = .ok (hobj, 4) := hh.take
    unfold headR
    rw [then_eq e, if_pos rfl]
  rw [then_eq e0, then_eq hn.str, then_eq (hcl.most c0 (by decide)), then_eq hc.take, then_eq (hdl.most c1 (by decide)), then_eq hd.take, then_eq (hsl.most c2 (by decide)),
    then_eq (many_read (g := symB) _ _ (fun s hs p hp => At.sym (c4 s hs) hp) hs), then_eq (hrl.most c3 (by decide)), then_eq (many_read (g := relB) _ _ (fun r hr p hp => At.rel (c5 r hr) hp) hr)]
  simp only [Except.ok.injEq, Prod.mk.injEq, true_and]
  conv => rhs; unfold encL
  simp only [List.length_append, num4_length]
  simp only [hobj, List.length_cons, List.length_nil]
  omega
/-- Cut anywhere it is none. -/
theorem obj_cut {o : ObjV} (ho : ObjOk o) {n : Nat} (hn : n < (encL o).length) : ∃ e, decL ((encL o).take n) = .error e := by
  unfold decL
  cases h : objR ((encL o).take n) with
  | error e => exact ⟨_, rfl⟩
  | ok a =>
    obtain ⟨v, p⟩ := a
    have h1 := obj_mono _ ((encL o).drop n) 0 v p h
    simp only [List.take_append_drop] at h1
    rw [obj_read ho] at h1
    simp only [Except.ok.injEq, Prod.mk.injEq] at h1
    have h2 := obj_bnd h
    rw [List.length_take] at h2
    omega
/-- Nor with a byte more. -/
theorem obj_more {o : ObjV} (ho : ObjOk o) (x : Nat) : ∃ e, decL (encL o ++ [x]) = .error e := by
  unfold decL
  have h1 := obj_mono _ [x] 0 _ _ (obj_read ho)
  simp only at h1
  rw [h1]
  simp only
  rw [if_pos (by simp)]
  exact ⟨_, rfl⟩
end Go.Proofs.YtahnbeoacdnhjaaDoor
