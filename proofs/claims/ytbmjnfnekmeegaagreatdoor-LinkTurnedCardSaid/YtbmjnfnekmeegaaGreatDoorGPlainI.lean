/- ImgTab, ImgMath, ImgOk, ImgMid: Images, plain: what P1801 says of any image, of any bytes. -/
import Derived.Test.YtbmjnfnekmeegaaGreatDoorGPlainO
/- Images, plain: what P1801 says of any image, of any bytes. -/
namespace Go.Proofs.YtbmjnfnekmeegaaGreatDoor
set_option linter.unusedVariables false
set_option linter.unusedSimpArgs false
open Go.RowKit
structure SpanV where
  at_ : Int
  size : Int
structure PartV where
  name : ByteArray
  code : SpanV
  data : SpanV
  stack : SpanV
  entries : List Int
structure InitV where
  comp : Int
  at_ : Int
  kind : Int
  data : Bool
  src : Int
  addr : Int
  perm : Int
structure ImgV where
  size : Int
  parts : List PartV
  shares : List SpanV
  inits : List InitV
  start : Int
  addr : Int
  bytes : List Nat
def sizeT : ByteArray := ⟨#[115, 105, 122, 101]⟩
def bytesT : ByteArray := ⟨#[98, 121, 116, 101, 115]⟩
def partsT : ByteArray := ⟨#[112, 97, 114, 116, 115]⟩
def sharesT : ByteArray := ⟨#[115, 104, 97, 114, 101, 115]⟩
def spanT : ByteArray := ⟨#[115, 112, 97, 110]⟩
def partT : ByteArray := ⟨#[112, 97, 114, 116]⟩
def entryT : ByteArray := ⟨#[101, 110, 116, 114, 121]⟩
def initsT : ByteArray := ⟨#[105, 110, 105, 116, 115]⟩
def initT : ByteArray := ⟨#[105, 110, 105, 116]⟩
def startT : ByteArray := ⟨#[115, 116, 97, 114, 116]⟩
/-- All spans: of each part three, then of each share. -/
def spansI (i : ImgV) : List SpanV := (i.parts.flatMap fun p => [p.code, p.data, p.stack]) ++ i.shares
def meetS (a b : SpanV) : Bool := decide (0 < a.size) && decide (0 < b.size) && decide (a.at_ < b.at_ + b.size) && decide (b.at_ < a.at_ + a.size)
def withinS (s : SpanV) (a n : Int) : Bool := decide (s.at_ ≤ a) && decide (a + n ≤ s.at_ + s.size)
def spanE (i : ImgV) (k : Nat) : Int := match (spansI i)[k]? with
  | none => 0
  | some s =>
    if s.at_ % 16 ≠ 0 ∨ s.size % 16 ≠ 0 then 5 else
    if s.at_ < 16 ∨ i.size < s.at_ + s.size then 6 else
    if (((spansI i).take k).any fun t => meetS t s) = true then 13 else 0
def partE (i : ImgV) (k : Nat) : Int := match i.parts[k]? with
  | none => 0
  | some p =>
    if goodB p.name = false then 12 else
    if ((i.parts.take k).any fun q => decide (q.name = p.name)) = true then 13 else
    if p.code.size = 0 then 16 else
    if p.entries.length > 64 then 15 else 0
/-- All entries: the part, which of its own. -/
def entsI (i : ImgV) : List (PartV × Nat) := i.parts.flatMap fun p => (List.range p.entries.length).map fun j => (p, j)
def entE (i : ImgV) (k : Nat) : Int := match (entsI i)[k]? with
  | none => 0
  | some (p, j) => match p.entries[j]? with
    | none => 0
    | some e =>
      if e % 4 ≠ 0 then 5 else
      if withinS p.code e 1 = false then 6 else
      if (match j with
        | 0 => false
        | h + 1 => match p.entries[h]? with
          | none => false
          | some d => decide (e ≤ d)) = true then 13 else 0
def amongI (l : List Int) (v : Int) : Bool := l.any fun x => decide (x = v)
def prevI (i : ImgV) (k : Nat) (a : Int) : Bool := match k with
  | 0 => false
  | j + 1 => match i.inits[j]? with
    | none => false
    | some y => decide (a ≤ y.at_)
def initE (i : ImgV) (k : Nat) : Int := match i.inits[k]? with
  | none => 0
  | some x =>
    if x.comp < 0 ∨ (i.parts.length : Int) ≤ x.comp then 6 else
    match i.parts[x.comp.toNat]? with
    | none => 6
    | some c =>
      if x.at_ % 16 ≠ 0 then 5 else
      if withinS c.data x.at_ 16 = false then 6 else
      if prevI i k x.at_ = true then 13 else
      if x.kind = 1 then
        (if x.src ≠ 0 then 17 else if withinS (if x.data = true then c.data else c.code) x.addr 0 = false then 6 else if bits .andNot .u16 x.perm (mostP x.data) ≠ 0 then 3 else 0)
      else if x.kind = 2 then
        (if x.data = true ∨ x.perm ≠ 0 then 17 else if x.src < 0 ∨ (i.parts.length : Int) ≤ x.src then 6 else
          if (match i.parts[x.src.toNat]? with
            | none => false
            | some f => amongI f.entries x.addr) = false then 12 else if x.src = x.comp then 17 else 0)
      else if x.kind = 3 then
        (if x.data = true then 17 else if x.src < 0 ∨ (i.shares.length : Int) ≤ x.src ∨ (match i.shares[x.src.toNat]? with
            | none => true
            | some s => decide (s.at_ ≠ x.addr)) = true then 6 else if x.perm = 0 ∨ 3 < x.perm then 3 else 0)
      else 17
def imgW (i : ImgV) : WrV :=
  if i.size < 16 ∨ 65536 < i.size then (sizeT, i.size, 6) else
  if i.size % 16 ≠ 0 then (sizeT, i.size, 5) else
  if (i.bytes.length : Int) > i.size then (bytesT, i.bytes.length, 6) else
  if i.parts.length = 0 then (partsT, 0, 16) else
  if i.parts.length > 8 then (partsT, i.parts.length, 15) else
  if i.shares.length > 8 then (sharesT, i.shares.length, 15) else
  match firstE (spanE i) (spansI i).length 0 with
  | some (k, e) => (spanT, k, e)
  | none => match firstE (partE i) i.parts.length 0 with
    | some (k, e) => (partT, k, e)
    | none => match firstE (entE i) (entsI i).length 0 with
      | some (k, e) => (entryT, k, e)
      | none =>
        if i.inits.length > 512 then (initsT, i.inits.length, 15) else
        match firstE (initE i) i.inits.length 0 with
        | some (k, e) => (initT, k, e)
        | none =>
          if i.start < 0 ∨ (i.parts.length : Int) ≤ i.start then (startT, i.start, 6) else
          if (match i.parts[i.start.toNat]? with
            | none => false
            | some p => amongI p.entries i.addr) = false then (startT, i.start, 12) else okW
/-! ### In bytes -/
def spanB (s : SpanV) : List Nat := num4 s.at_.toNat ++ num4 s.size.toNat
def entB (e : Int) : List Nat := num4 e.toNat
def partB (p : PartV) : List Nat := strB p.name ++ (spanB p.code ++ (spanB p.data ++ (spanB p.stack ++ (num4 p.entries.length ++ p.entries.flatMap entB))))
def initB (x : InitV) : List Nat := num4 x.comp.toNat ++ (num4 x.at_.toNat ++ (num4 x.kind.toNat ++ ((if x.data = true then 1 else 0) :: (num4 x.src.toNat ++ (num4 x.addr.toNat ++ num4 x.perm.toNat)))))
def himg : List Nat := [72, 73, 77, 71]
def encI (i : ImgV) : List Nat :=
  himg ++ (num4 i.size.toNat ++ (num4 i.parts.length ++ (i.parts.flatMap partB ++ (num4 i.shares.length ++ (i.shares.flatMap spanB ++ (num4 i.inits.length ++ (i.inits.flatMap initB ++ (num4 i.start.toNat ++ (num4 i.addr.toNat ++ (num4 i.bytes.length ++ i.bytes))))))))))
/-! ### And back -/
def spanR (l : List Nat) (at_ : Nat) : Rd SpanV := thenR (numR l at_) fun a p => thenR (numR l p) fun s p => .ok (⟨a, s⟩, p)
def entR (l : List Nat) (at_ : Nat) : Rd Int := thenR (numR l at_) fun n p => .ok ((n : Int), p)
def partR (l : List Nat) (at_ : Nat) : Rd PartV := thenR (strR l at_) fun s p => thenR (spanR l p) fun a p => thenR (spanR l p) fun b p => thenR (spanR l p) fun c p => thenR (mostR l 64 15 p) fun m p => thenR (manyR (entR l) m p) fun e p => .ok (⟨s, a, b, c, e⟩, p)
def initR (l : List Nat) (at_ : Nat) : Rd InitV := thenR (mostR l 2147483647 14 at_) fun c p => thenR (numR l p) fun a p => thenR (mostR l 2147483647 14 p) fun k p => thenR (uptoR l 0 1 p) fun d p => thenR (mostR l 2147483647 14 p) fun f p => thenR (numR l p) fun w p => thenR (mostR l 65535 11 p) fun m p => .ok (⟨c, a, k, decide (d = 1), f, w, m⟩, p)
def imgR (l : List Nat) (at_ : Nat) : Rd ImgV :=
  thenR (headR l himg at_) fun _ p => thenR (numR l p) fun size p => thenR (mostR l 64 15 p) fun n p => thenR (manyR (partR l) n p) fun parts p => thenR (mostR l 64 15 p) fun n p => thenR (manyR (spanR l) n p) fun shares p =>
  thenR (mostR l 512 15 p) fun n p => thenR (manyR (initR l) n p) fun inits p => thenR (mostR l 2147483647 14 p) fun start p => thenR (numR l p) fun addr p => thenR (mostR l 65536 15 p) fun n p => thenR (takeR l n p) fun bytes p => .ok (⟨size, parts, shares, inits, start, addr, bytes⟩, p)
def decI (l : List Nat) : Except WrV ImgV := match imgR l 0 with
  | .error (at_, e) => .error (byteT, at_, e)
  | .ok (i, p) => if p < l.length then .error (byteT, p, 11) else if (imgW i).2.2 = 0 then .ok i else .error (imgW i)
/-- None. -/
def noImg : ImgV := ⟨0, [], [], [], 0, 0, []⟩
end Go.Proofs.YtbmjnfnekmeegaaGreatDoor

/- Images, plain: one in bytes is read back to the end; no cut is one, nor one with a byte more; parts of one that may be lie apart. -/
namespace Go.Proofs.YtbmjnfnekmeegaaGreatDoor
set_option linter.unusedVariables false
set_option linter.unusedSimpArgs false
open Go.RowKit
theorem span_mono : Mono spanR := then_mono num_mono fun _ => then_mono num_mono fun _ => ok_mono _
theorem ent_mono : Mono entR := then_mono num_mono fun _ => ok_mono _
theorem part_mono : Mono partR := then_mono str_mono fun _ => then_mono span_mono fun _ => then_mono span_mono fun _ => then_mono span_mono fun _ => then_mono (most_mono 64 15) fun m => then_mono (many_mono ent_mono m) fun _ => ok_mono _
theorem init_mono : Mono initR := then_mono (most_mono 2147483647 14) fun _ => then_mono num_mono fun _ => then_mono (most_mono 2147483647 14) fun _ => then_mono (upto_mono 0 1) fun _ => then_mono (most_mono 2147483647 14) fun _ => then_mono num_mono fun _ => then_mono (most_mono 65535 11) fun _ => ok_mono _
theorem img_mono : Mono imgR := then_mono (head_mono himg) fun _ => then_mono num_mono fun _ => then_mono (most_mono 64 15) fun n => then_mono (many_mono part_mono n) fun _ => then_mono (most_mono 64 15) fun n => then_mono (many_mono span_mono n) fun _ =>
  then_mono (most_mono 512 15) fun n => then_mono (many_mono init_mono n) fun _ => then_mono (most_mono 2147483647 14) fun _ => then_mono num_mono fun _ => then_mono (most_mono 65536 15) fun n => then_mono (take_mono n) fun _ => ok_mono _
theorem span_bnd : Bnd spanR := then_bnd num_bnd fun _ => then_bnd num_bnd fun _ => ok_bnd _
theorem ent_bnd : Bnd entR := then_bnd num_bnd fun _ => ok_bnd _
theorem part_bnd : Bnd partR := then_bnd str_bnd fun _ => then_bnd span_bnd fun _ => then_bnd span_bnd fun _ => then_bnd span_bnd fun _ => then_bnd (most_bnd 64 15) fun m => then_bnd (many_bnd ent_bnd m) fun _ => ok_bnd _
theorem init_bnd : Bnd initR := then_bnd (most_bnd 2147483647 14) fun _ => then_bnd num_bnd fun _ => then_bnd (most_bnd 2147483647 14) fun _ => then_bnd (upto_bnd 0 1) fun _ => then_bnd (most_bnd 2147483647 14) fun _ => then_bnd num_bnd fun _ => then_bnd (most_bnd 65535 11) fun _ => ok_bnd _
theorem img_bnd : Bnd imgR := then_bnd (head_bnd himg) fun _ => then_bnd num_bnd fun _ => then_bnd (most_bnd 64 15) fun n => then_bnd (many_bnd part_bnd n) fun _ => then_bnd (most_bnd 64 15) fun n => then_bnd (many_bnd span_bnd n) fun _ =>
  then_bnd (most_bnd 512 15) fun n => then_bnd (many_bnd init_bnd n) fun _ => then_bnd (most_bnd 2147483647 14) fun _ => then_bnd num_bnd fun _ => then_bnd (most_bnd 65536 15) fun n => then_bnd (take_bnd n) fun _ => ok_bnd _
/-! ### One that is written is read -/
def N32 (x : Int) : Prop := 0 ≤ x ∧ x < 4294967296
def SpanOk (s : SpanV) : Prop := N32 s.at_ ∧ N32 s.size
structure PartOk (p : PartV) : Prop where
  code : SpanOk p.code
  data : SpanOk p.data
  stack : SpanOk p.stack
  few : p.entries.length ≤ 64
  ents : ∀ e ∈ p.entries, N32 e
def N31 (x : Int) : Prop := 0 ≤ x ∧ x ≤ 2147483647
structure InitOk (x : InitV) : Prop where
  comp : N31 x.comp
  at_ : N32 x.at_
  kind : N31 x.kind
  src : N31 x.src
  addr : N32 x.addr
  perm : 0 ≤ x.perm ∧ x.perm < 65536
structure ImgOk (i : ImgV) : Prop where
  size : N32 i.size
  parts : ∀ p ∈ i.parts, PartOk p
  nparts : i.parts.length ≤ 64
  shares : ∀ s ∈ i.shares, SpanOk s
  nshares : i.shares.length ≤ 64
  inits : ∀ x ∈ i.inits, InitOk x
  ninits : i.inits.length ≤ 512
  start : N31 i.start
  addr : N32 i.addr
  bytes : i.bytes.length ≤ 65536
theorem At.num32 {l : List Nat} {p : Nat} {x : Int} (h : At l p (num4 x.toNat)) (hx : N32 x) : numR l p = .ok (x.toNat, p + 4) := h.num (by have := hx.1; have := hx.2; omega)
theorem At.most31 {l : List Nat} {p : Nat} {x e : Int} (h : At l p (num4 x.toNat)) (hx : N31 x) : mostR l 2147483647 e p = .ok (x.toNat, p + 4) := h.most (by have := hx.1; have := hx.2; omega) (by decide)
theorem At.span {l : List Nat} {p : Nat} {s : SpanV} (hs : SpanOk s) (h : At l p (spanB s)) : spanR l p = .ok (s, p + (spanB s).length) := by
  obtain ⟨h1, h2⟩ := At.split4 h
  unfold spanR
  rw [then_eq (h1.num32 hs.1), then_eq (h2.num32 hs.2)]
  obtain ⟨a, z⟩ := s
  have := hs.1.1; have := hs.2.1
  simp only at *
  simp only [Except.ok.injEq, Prod.mk.injEq, SpanV.mk.injEq]
  refine ⟨⟨by omega, by omega⟩, rfl⟩
theorem At.ent {l : List Nat} {p : Nat} {e : Int} (he : N32 e) (h : At l p (entB e)) : entR l p = .ok (e, p + (entB e).length) := by
  unfold entR
  rw [then_eq (At.num32 h he)]
  have := he.1
  simp only [Except.ok.injEq, Prod.mk.injEq]
  exact ⟨by omega, rfl⟩
theorem spanB_length (s : SpanV) : (spanB s).length = 8 := rfl
theorem At.split8 {l : List Nat} {p : Nat} {s : SpanV} {c : List Nat} (h : At l p (spanB s ++ c)) : At l p (spanB s) ∧ At l (p + 8) c := At.split h
theorem At.part {l : List Nat} {p : Nat} {x : PartV} (hx : PartOk x) (h : At l p (partB x)) : partR l p = .ok (x, p + (partB x).length) := by
  have s1 := At.split (b := strB x.name) h
  have s2 := At.split8 s1.2
  have s3 := At.split8 s2.2
  have s4 := At.split8 s3.2
  have s5 := At.split4 s4.2
  unfold partR
  rw [then_eq s1.1.str, then_eq (show spanR l (p + (strB x.name).length) = .ok (x.code, p + (strB x.name).length + 8) from s2.1.span hx.code), then_eq (show spanR l (p + (strB x.name).length + 8) = .ok (x.data, p + (strB x.name).length + 8 + 8) from s3.1.span hx.data),
    then_eq (show spanR l (p + (strB x.name).length + 8 + 8) = .ok (x.stack, p + (strB x.name).length + 8 + 8 + 8) from s4.1.span hx.stack), then_eq (s5.1.most hx.few (by decide)), then_eq (many_read (g := entB) _ _ (fun e he q hq => At.ent (hx.ents e he) hq) s5.2)]
  obtain ⟨a, b, c, d, e⟩ := x
  simp only [Except.ok.injEq, Prod.mk.injEq, true_and]
  simp only [partB, List.length_append, spanB_length, num4_length]
  omega
theorem At.init {l : List Nat} {p : Nat} {x : InitV} (hx : InitOk x) (h : At l p (initB x)) : initR l p = .ok (x, p + (initB x).length) := by
  have s1 := At.split4 h
  have s2 := At.split4 s1.2
  have s3 := At.split4 s2.2
  have s4 := At.split1 s3.2
  have s5 := At.split4 s4.2
  have s6 := At.split4 s5.2
  have hd : (if x.data = true then 1 else 0 : Nat) ≤ 1 := by split <;> omega
  unfold initR
  rw [then_eq (s1.1.most31 hx.comp), then_eq (s2.1.num32 hx.at_), then_eq (s3.1.most31 hx.kind), then_eq (s4.1.upto (Nat.zero_le _) hd), then_eq (s5.1.most31 hx.src), then_eq (s6.1.num32 hx.addr), then_eq (s6.2.most (m := 65535) (by have := hx.perm; omega) (by decide))]
  have b1 := hx.comp.1; have b2 := hx.at_.1; have b3 := hx.kind.1; have b4 := hx.src.1; have b5 := hx.addr.1; have b6 := hx.perm.1
  obtain ⟨a, b, c, d, e, f, g⟩ := x
  simp only at b1 b2 b3 b4 b5 b6
  simp only [Except.ok.injEq, Prod.mk.injEq, InitV.mk.injEq]
  refine ⟨⟨by omega, by omega, by omega, ?_, by omega, by omega, by omega⟩, ?_⟩
  · cases d <;> rfl
  · simp only [initB, List.length_append, List.length_cons, num4_length]
/-- Where each part of an image begins. -/
theorem img_at (i : ImgV) : ∃ p1 p2 p3 p4 p5 p6 p7 : Nat, At (encI i) 0 himg ∧ At (encI i) 4 (num4 i.size.toNat) ∧ At (encI i) 8 (num4 i.parts.length) ∧ At (encI i) 12 (i.parts.flatMap partB) ∧ 12 + (i.parts.flatMap partB).length = p1 ∧ At (encI i) p1 (num4 i.shares.length) ∧ At (encI i) (p1 + 4) (i.shares.flatMap spanB) ∧
    p1 + 4 + (i.shares.flatMap spanB).length = p2 ∧ At (encI i) p2 (num4 i.inits.length) ∧ At (encI i) (p2 + 4) (i.inits.flatMap initB) ∧ p2 + 4 + (i.inits.flatMap initB).length = p3 ∧ At (encI i) p3 (num4 i.start.toNat) ∧ p3 + 4 = p4 ∧ At (encI i) p4 (num4 i.addr.toNat) ∧ p4 + 4 = p5 ∧ At (encI i) p5 (num4 i.bytes.length) ∧ p5 + 4 = p6 ∧ At (encI i) p6 i.bytes ∧ p6 + i.bytes.length = p7 ∧ p7 = (encI i).length := by
  have h : At (encI i) 0 (encI i) := ⟨[], [], by simp, rfl⟩
  conv at h => rhs; unfold encI
  have s1 := At.split h
  have h1 := s1.2
  rw [show 0 + himg.length = 4 from rfl] at h1
  have s2 := At.split4 h1
  have s3 := At.split4 s2.2
  have s4 := At.split s3.2
  have s5 := At.split4 s4.2
  have s6 := At.split s5.2
  have s7 := At.split4 s6.2
  have s8 := At.split s7.2
  have s9 := At.split4 s8.2
  have s10 := At.split4 s9.2
  have s11 := At.split4 s10.2
  refine ⟨_, _, _, _, _, _, _, s1.1, s2.1, s3.1, s4.1, rfl, s5.1, s6.1, rfl, s7.1, s8.1, rfl, s9.1, rfl, s10.1, rfl, s11.1, rfl, s11.2, rfl, ?_⟩
  unfold encI
  simp only [List.length_append, num4_length]
  simp only [himg, List.length_cons, List.length_nil]
  omega
theorem img_read {i : ImgV} (hi : ImgOk i) : imgR (encI i) 0 = .ok (i, (encI i).length) := by
  obtain ⟨p1, p2, p3, p4, p5, p6, p7, a1, a2, a3, a4, e1, a5, a6, e2, a7, a8, e3, a9, e4, a10, e5, a11, e6, a12, e7, e8⟩ := img_at i
  have r0 : headR (encI i) himg 0 = .ok ((), 4) := by
    have e : takeR (encI i) 4 0 = .ok (himg, 4) := a1.take
    unfold headR
    rw [then_eq e, if_pos rfl]
  have r1 : numR (encI i) 4 = .ok (i.size.toNat, 8) := a2.num32 hi.size
  have r2 : mostR (encI i) 64 15 8 = .ok (i.parts.length, 12) := a3.most hi.nparts (by decide)
  have r3 : manyR (partR (encI i)) i.parts.length 12 = .ok (i.parts, p1) := by rw [← e1]; exact many_read (g := partB) _ _ (fun x hx q hq => At.part (hi.parts x hx) hq) a4
  have r4 : mostR (encI i) 64 15 p1 = .ok (i.shares.length, p1 + 4) := a5.most hi.nshares (by decide)
  have r5 : manyR (spanR (encI i)) i.shares.length (p1 + 4) = .ok (i.shares, p2) := by rw [← e2]; exact many_read (g := spanB) _ _ (fun x hx q hq => At.span (hi.shares x hx) hq) a6
  have r6 : mostR (encI i) 512 15 p2 = .ok (i.inits.length, p2 + 4) := a7.most hi.ninits (by decide)
  have r7 : manyR (initR (encI i)) i.inits.length (p2 + 4) = .ok (i.inits, p3) := by rw [← e3]; exact many_read (g := initB) _ _ (fun x hx q hq => At.init (hi.inits x hx) hq) a8
  have r8 : mostR (encI i) 2147483647 14 p3 = .ok (i.start.toNat, p4) := by rw [← e4]; exact a9.most31 hi.start
  have r9 : numR (encI i) p4 = .ok (i.addr.toNat, p5) := by rw [← e5]; exact a10.num32 hi.addr
  have r10 : mostR (encI i) 65536 15 p5 = .ok (i.bytes.length, p6) := by rw [← e6]; exact a11.most hi.bytes (by decide)
  have r11 : takeR (encI i) i.bytes.length p6 = .ok (i.bytes, p7) := by rw [← e7]; exact a12.take
  have c1 : ((i.size.toNat : Nat) : Int) = i.size := by have := hi.size.1; omega
  have c2 : ((i.start.toNat : Nat) : Int) = i.start := by have := hi.start.1; omega
  have c3 : ((i.addr.toNat : Nat) : Int) = i.addr := by have := hi.addr.1; omega
  have e : (⟨(i.size.toNat : Nat), i.parts, i.shares, i.inits, (i.start.toNat : Nat), (i.addr.toNat : Nat), i.bytes⟩ : ImgV) = i := by rw [c1, c2, c3]
  unfold imgR
  refine (then_eq r0).trans ?_
  refine (then_eq r1).trans ?_
  refine (then_eq r2).trans ?_
  refine (then_eq r3).trans ?_
  refine (then_eq r4).trans ?_
  refine (then_eq r5).trans ?_
  refine (then_eq r6).trans ?_
  refine (then_eq r7).trans ?_
  refine (then_eq r8).trans ?_
  refine (then_eq r9).trans ?_
  refine (then_eq r10).trans ?_
  refine (then_eq r11).trans ?_
  have q : (Except.ok ((⟨(i.size.toNat : Nat), i.parts, i.shares, i.inits, (i.start.toNat : Nat), (i.addr.toNat : Nat), i.bytes⟩ : ImgV), p7) : Rd ImgV) = .ok (i, (encI i).length) := by rw [e, e8]
  exact q
/-- Cut anywhere it is none. -/
theorem img_cut {i : ImgV} (hi : ImgOk i) {n : Nat} (hn : n < (encI i).length) : ∃ e, decI ((encI i).take n) = .error e := by
  unfold decI
  cases h : imgR ((encI i).take n) 0 with
  | error e => exact ⟨_, rfl⟩
  | ok a =>
    obtain ⟨v, p⟩ := a
    have h1 := img_mono _ ((encI i).drop n) 0 v p h
    rw [List.take_append_drop, img_read hi] at h1
    simp only [Except.ok.injEq, Prod.mk.injEq] at h1
    have h2 := img_bnd _ _ _ _ (Nat.zero_le _) h
    rw [List.length_take] at h2
    omega
theorem decI_behind {l : List Nat} {i : ImgV} {p : Nat} (h : imgR l 0 = .ok (i, p)) (hp : p < l.length) : decI l = .error (byteT, (p : Int), 11) := by
  unfold decI
  rw [h]
  exact if_pos hp
/-- Nor with a byte more. -/
theorem img_more {i : ImgV} (hi : ImgOk i) (x : Nat) : ∃ e, decI (encI i ++ [x]) = .error e :=
  ⟨_, decI_behind (img_mono _ [x] 0 _ _ (img_read hi)) (by rw [List.length_append]; exact Nat.lt_succ_self _)⟩
end Go.Proofs.YtbmjnfnekmeegaaGreatDoor

/- Images, plain: one that may be is such; its parts lie apart. -/
namespace Go.Proofs.YtbmjnfnekmeegaaGreatDoor
set_option linter.unusedVariables false
set_option linter.unusedSimpArgs false
open Go.RowKit
/-- What the numbers of an image are. -/
structure ImgNum (i : ImgV) : Prop where
  size : N32 i.size
  spans : ∀ s ∈ spansI i, SpanOk s
  ents : ∀ p ∈ i.parts, ∀ e ∈ p.entries, N32 e
  at_ : ∀ x ∈ i.inits, N32 x.at_
  iaddr : ∀ x ∈ i.inits, N32 x.addr
  perm : ∀ x ∈ i.inits, 0 ≤ x.perm ∧ x.perm < 65536
  addr : N32 i.addr
  bytes256 : ∀ x ∈ i.bytes, x < 256
/-- What one that may be has. -/
structure ImgMay (i : ImgV) : Prop where
  lo : 16 ≤ i.size
  hi : i.size ≤ 65536
  mod : i.size % 16 = 0
  bytes : (i.bytes.length : Int) ≤ i.size
  parts : i.parts.length ≠ 0 ∧ i.parts.length ≤ 8
  shares : i.shares.length ≤ 8
  span : ∀ k, k < (spansI i).length → spanE i k = 0
  part : ∀ k, k < i.parts.length → partE i k = 0
  ent : ∀ k, k < (entsI i).length → entE i k = 0
  ninits : i.inits.length ≤ 512
  init : ∀ k, k < i.inits.length → initE i k = 0
  start : 0 ≤ i.start ∧ i.start < i.parts.length
theorem firstE_zero {f : Nat → Int} {n : Nat} (h : firstE f n 0 = none) : ∀ k, k < n → f k = 0 := fun k hk => first_none n 0 h k (Nat.zero_le _) (by omega)
theorem imgW_may {i : ImgV} (h : (imgW i).2.2 = 0) : ImgMay i := by
  unfold imgW at h
  by_cases h1 : i.size < 16 ∨ 65536 < i.size
  · rw [if_pos h1] at h; exact absurd h (by decide : ¬ (6 : Int) = 0)
  rw [if_neg h1] at h
  by_cases h2 : i.size % 16 ≠ 0
  · rw [if_pos h2] at h; exact absurd h (by decide : ¬ (5 : Int) = 0)
  rw [if_neg h2] at h
  by_cases h3 : (i.bytes.length : Int) > i.size
  · rw [if_pos h3] at h; exact absurd h (by decide : ¬ (6 : Int) = 0)
  rw [if_neg h3] at h
  by_cases h4 : i.parts.length = 0
  · rw [if_pos h4] at h; exact absurd h (by decide : ¬ (16 : Int) = 0)
  rw [if_neg h4] at h
  by_cases h5 : i.parts.length > 8
  · rw [if_pos h5] at h; exact absurd h (by decide : ¬ (15 : Int) = 0)
  rw [if_neg h5] at h
  by_cases h6 : i.shares.length > 8
  · rw [if_pos h6] at h; exact absurd h (by decide : ¬ (15 : Int) = 0)
  rw [if_neg h6] at h
  cases h7 : firstE (spanE i) (spansI i).length 0 with
  | some x => rw [h7] at h; exact absurd h (first_some _ _ _ _ h7)
  | none =>
    rw [h7] at h
    cases h8 : firstE (partE i) i.parts.length 0 with
    | some x => rw [h8] at h; exact absurd h (first_some _ _ _ _ h8)
    | none =>
      rw [h8] at h
      cases h9 : firstE (entE i) (entsI i).length 0 with
      | some x => rw [h9] at h; exact absurd h (first_some _ _ _ _ h9)
      | none =>
        rw [h9] at h
        dsimp only at h
        by_cases h10 : i.inits.length > 512
        · rw [if_pos h10] at h; exact absurd h (by decide : ¬ (15 : Int) = 0)
        rw [if_neg h10] at h
        cases h11 : firstE (initE i) i.inits.length 0 with
        | some x => rw [h11] at h; exact absurd h (first_some _ _ _ _ h11)
        | none =>
          rw [h11] at h
          dsimp only at h
          by_cases h12 : i.start < 0 ∨ (i.parts.length : Int) ≤ i.start
          · rw [if_pos h12] at h; exact absurd h (by decide : ¬ (6 : Int) = 0)
          exact ⟨by omega, by omega, by omega, by omega, ⟨h4, by omega⟩, by omega, firstE_zero h7, firstE_zero h8, firstE_zero h9, by omega, firstE_zero h11, by omega⟩
theorem ImgMay.ok {i : ImgV} (h : ImgMay i) (hn : ImgNum i) : ImgOk i := by
  have hsp := h.parts.2
  have hsh := h.shares
  refine ⟨hn.size, fun p hp => ?_, by omega, fun s hs => hn.spans s (by unfold spansI; simp [hs]), by omega, fun x hx => ?_, h.ninits, ?_, hn.addr, by have := h.bytes; have := h.hi; omega⟩
  · have sp := fun s (hs : s = p.code ∨ s = p.data ∨ s = p.stack) => hn.spans s (by
      unfold spansI
      simp only [List.mem_append, List.mem_flatMap, List.mem_cons, List.not_mem_nil, or_false]
      exact .inl ⟨p, hp, hs⟩)
    refine ⟨sp _ (.inl rfl), sp _ (.inr (.inl rfl)), sp _ (.inr (.inr rfl)), ?_, hn.ents p hp⟩
    obtain ⟨k, hk, rfl⟩ := List.mem_iff_getElem.1 hp
    have e := h.part k hk
    unfold partE at e
    rw [List.getElem?_eq_getElem hk] at e
    dsimp only at e
    split at e
    · exact absurd e (by decide)
    · split at e
      · exact absurd e (by decide)
      · split at e
        · exact absurd e (by decide)
        · split at e
          · exact absurd e (by decide)
          · omega
  · have a1 := hn.at_ x hx
    have a2 := hn.iaddr x hx
    have a3 := hn.perm x hx
    obtain ⟨k, hk, rfl⟩ := List.mem_iff_getElem.1 hx
    have e := h.init k hk
    unfold initE at e
    rw [List.getElem?_eq_getElem hk] at e
    dsimp only at e
    generalize i.inits[k] = y at e a1 a2 a3
    by_cases c1 : y.comp < 0 ∨ (i.parts.length : Int) ≤ y.comp
    · rw [if_pos c1] at e; exact absurd e (by decide)
    rw [if_neg c1] at e
    have hc : y.comp.toNat < i.parts.length := by omega
    rw [List.getElem?_eq_getElem hc] at e
    dsimp only at e
    split at e
    · exact absurd e (by decide)
    split at e
    · exact absurd e (by decide)
    split at e
    · exact absurd e (by decide)
    by_cases k1 : y.kind = 1
    · rw [if_pos k1] at e
      by_cases s1 : y.src ≠ 0
      · rw [if_pos s1] at e; exact absurd e (by decide)
      exact ⟨⟨by omega, by omega⟩, a1, ⟨by omega, by omega⟩, ⟨by omega, by omega⟩, a2, a3⟩
    rw [if_neg k1] at e
    by_cases k2 : y.kind = 2
    · rw [if_pos k2] at e
      split at e
      · exact absurd e (by decide)
      by_cases s1 : y.src < 0 ∨ (i.parts.length : Int) ≤ y.src
      · rw [if_pos s1] at e; exact absurd e (by decide)
      exact ⟨⟨by omega, by omega⟩, a1, ⟨by omega, by omega⟩, ⟨by omega, by omega⟩, a2, a3⟩
    rw [if_neg k2] at e
    by_cases k3 : y.kind = 3
    · rw [if_pos k3] at e
      split at e
      · exact absurd e (by decide)
      by_cases s1 : y.src < 0 ∨ (i.shares.length : Int) ≤ y.src
      · rw [if_pos (by rcases s1 with s1 | s1; exact .inl s1; exact .inr (.inl s1))] at e; exact absurd e (by decide)
      exact ⟨⟨by omega, by omega⟩, a1, ⟨by omega, by omega⟩, ⟨by omega, by omega⟩, a2, a3⟩
    rw [if_neg k3] at e
    exact absurd e (by decide)
  · have := h.start
    exact ⟨this.1, by omega⟩
/-! ### Parts lie apart -/
def hitS (a : Int) (s : SpanV) : Bool := decide (s.at_ ≤ a) && decide (a < s.at_ + s.size)
theorem count_one {a : Int} : ∀ {l : List SpanV}, l.Pairwise (fun s t => ¬ (hitS a s = true ∧ hitS a t = true)) → l.countP (hitS a) ≤ 1
  | [], _ => by simp
  | s :: l, h => by
    rw [List.pairwise_cons] at h
    rw [List.countP_cons]
    by_cases hs : hitS a s = true
    · have e : l.countP (hitS a) = 0 := List.countP_eq_zero.2 fun t ht hh => h.1 t ht ⟨hs, hh⟩
      rw [e, if_pos hs]; omega
    · have := count_one h.2
      rw [if_neg hs]; omega
theorem img_apart {i : ImgV} (h : ImgMay i) (a : Int) : (spansI i).countP (hitS a) ≤ 1 ∧ ∀ s ∈ spansI i, hitS a s = true → 16 ≤ a ∧ a < i.size := by
  have key : ∀ k (hk : k < (spansI i).length), 16 ≤ (spansI i)[k].at_ ∧ (spansI i)[k].at_ + (spansI i)[k].size ≤ i.size ∧ ∀ j (hj : j < k), meetS ((spansI i)[j]'(by omega)) (spansI i)[k] = false := by
    intro k hk
    have e := h.span k hk
    unfold spanE at e
    rw [List.getElem?_eq_getElem hk] at e
    dsimp only at e
    split at e
    · exact absurd e (by decide)
    by_cases c : (spansI i)[k].at_ < 16 ∨ i.size < (spansI i)[k].at_ + (spansI i)[k].size
    · rw [if_pos c] at e; exact absurd e (by decide)
    rw [if_neg c] at e
    by_cases d : (((spansI i).take k).any fun t => meetS t (spansI i)[k]) = true
    · rw [if_pos d] at e; exact absurd e (by decide)
    refine ⟨by omega, by omega, fun j hj => ?_⟩
    cases m : meetS ((spansI i)[j]'(by omega)) (spansI i)[k] with
    | false => rfl
    | true =>
      exfalso
      apply d
      rw [List.any_eq_true]
      exact ⟨(spansI i)[j]'(by omega), by rw [List.mem_take_iff_getElem]; exact ⟨j, by omega, rfl⟩, m⟩
  refine ⟨count_one (List.pairwise_iff_getElem.2 fun j k hj hk hjk hh => ?_), fun s hs hh => ?_⟩
  · have := (key k hk).2.2 j hjk
    obtain ⟨h1, h2⟩ := hh
    simp only [hitS, Bool.and_eq_true, decide_eq_true_eq] at h1 h2
    have m : meetS ((spansI i)[j]'hj) (spansI i)[k] = true := by
      simp only [meetS, Bool.and_eq_true, decide_eq_true_eq]
      omega
    rw [m] at this
    cases this
  · obtain ⟨k, hk, rfl⟩ := List.mem_iff_getElem.1 hs
    have := key k hk
    simp only [hitS, Bool.and_eq_true, decide_eq_true_eq] at hh
    omega
end Go.Proofs.YtbmjnfnekmeegaaGreatDoor

/- Images of no great size (the linker's too). -/
namespace Go.Proofs.YtbmjnfnekmeegaaGreatDoor
set_option linter.unusedVariables false
set_option linter.unusedSimpArgs false
open Go Go.RowKit
/-- What of an image is not great. -/
structure ImgMid (i : ImgV) : Prop where
  parts : i.parts.length ≤ 1000
  shares : i.shares.length ≤ 1000
  inits : i.inits.length ≤ 1000
  bytes : i.bytes.length ≤ 100000
  names : ∀ p ∈ i.parts, p.name.size ≤ 1000
  ents : ∀ p ∈ i.parts, p.entries.length ≤ 1000
theorem noImg_num : ImgNum noImg := by
  refine ⟨⟨by decide, by decide⟩, fun s hs => ?_, fun p hp => ?_, fun x hx => ?_, fun x hx => ?_, fun x hx => ?_, ⟨by decide, by decide⟩, fun x hx => ?_⟩
  · cases hs
  · cases hp
  · cases hx
  · cases hx
  · cases hx
  · cases hx
theorem noImg_mid : ImgMid noImg := by
  refine ⟨by decide, by decide, by decide, by decide, fun p hp => ?_, fun p hp => ?_⟩
  · cases hp
  · cases hp
end Go.Proofs.YtbmjnfnekmeegaaGreatDoor
