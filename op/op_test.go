package op_test

import (
	"math"
	"slices"
	"strings"
	"testing"

	"hasp/op"
)

// forms: each Form's name in the document.
var forms = map[string]int{"None": op.None, "R1": op.R1, "R2": op.R2, "R3": op.R3, "I": op.I, "U": op.U, "B": op.B, "J": op.J, "M": op.M, "N": op.N}

// told is the document's own list: a Form, and the names that have it.
const told = `R3: add sub mul and or xor sll srl sra slt sltu divu remu; I: addi andi ori xori slli srli slti;
U: li lui; R2: mv cbase ctop caddr cperm ctype ctag; R3: csetaddr cinc; I: cinci; R3: cbounds; I: cboundsi;
R3: candp; I: candpi; R2: cclear; R3: cseal cunseal; R2: center; R3: csub csubset ceq;
M: lb lbu lh lhu lw lc sb sh sw sc; B: beq bne blt bge bltu bgeu; J: jal; I: jalr; U: auipcc;
R1: in out; None: halt; N: ecall; None: nop`

// wanted reads that list, with Codes from 1 on.
func wanted(t *testing.T) []op.Op {
	t.Helper()
	list := []op.Op{}
	for group := range strings.SplitSeq(told, ";") {
		form, names, _ := strings.Cut(strings.TrimSpace(group), ":")
		n, ok := forms[form]
		if !ok {
			t.Fatalf("no Form is %q", form)
		}
		for name := range strings.FieldsSeq(names) {
			list = append(list, op.Op{Code: len(list) + 1, Name: name, Form: n})
		}
	}
	return list
}

func TestForms(t *testing.T) { // P601
	if got := [...]int{op.None, op.R1, op.R2, op.R3, op.I, op.U, op.B, op.J, op.M, op.N}; got != [...]int{0, 1, 2, 3, 4, 5, 6, 7, 8, 9} {
		t.Errorf("the Forms are %v", got)
	}
}

func TestAll(t *testing.T) { // P601, P3
	want := wanted(t)
	for range 2 {
		if got := op.All(); !slices.Equal(got, want) {
			t.Fatalf("All: %+v; want %+v", got, want)
		}
	}
}

// TestByHand: the ends of the list, and one of each Form where runs of it meet
// others.
func TestByHand(t *testing.T) { // P601
	for _, want := range []op.Op{
		{1, "add", 3}, {13, "remu", 3}, {14, "addi", 4}, {20, "slti", 4}, {21, "li", 5}, {22, "lui", 5}, {23, "mv", 2}, {29, "ctag", 2},
		{30, "csetaddr", 3}, {31, "cinc", 3}, {32, "cinci", 4}, {33, "cbounds", 3}, {34, "cboundsi", 4}, {35, "candp", 3}, {36, "candpi", 4},
		{37, "cclear", 2}, {38, "cseal", 3}, {39, "cunseal", 3}, {40, "center", 2}, {41, "csub", 3}, {43, "ceq", 3}, {44, "lb", 8}, {53, "sc", 8},
		{54, "beq", 6}, {59, "bgeu", 6}, {60, "jal", 7}, {61, "jalr", 4}, {62, "auipcc", 5}, {63, "in", 1}, {64, "out", 1}, {65, "halt", 0}, {66, "ecall", 9}, {67, "nop", 0},
	} {
		if got, ok := op.Named(want.Name); got != want || !ok {
			t.Errorf("Named(%q): %+v, %v; want %+v", want.Name, got, ok, want)
		}
		if got, ok := op.Coded(want.Code); got != want || !ok {
			t.Errorf("Coded(%d): %+v, %v; want %+v", want.Code, got, ok, want)
		}
	}
}

func TestNamedAndCoded(t *testing.T) { // P601, P3
	for _, want := range wanted(t) {
		for range 2 {
			if got, ok := op.Named(want.Name); got != want || !ok {
				t.Errorf("Named(%q): %+v, %v; want %+v", want.Name, got, ok, want)
			}
			if got, ok := op.Coded(want.Code); got != want || !ok {
				t.Errorf("Coded(%d): %+v, %v; want %+v", want.Code, got, ok, want)
			}
		}
	}
}

// beside holds what is nearly the name of an op: cut, lengthened, written
// otherwise.
func beside(name string) []string {
	list := []string{
		strings.ToUpper(name), strings.ToUpper(name[:1]) + name[1:], name + " ", " " + name, name + "\n", name + "\x00", "\x00" + name, name + name,
		name + "i", name + "u", name + ",", name + ".", "c" + name, name + " c1", "\ufeff" + name, name + "\u0301", name + "\xff", strings.Repeat(name, 1000),
	}
	for i := range name {
		list = append(list, name[:i], name[i+1:], name[:i]+name[i+1:], name[:i]+"_"+name[i+1:])
	}
	return list
}

func TestNamedNone(t *testing.T) { // P601, P1, P4
	list := []string{"", " ", "\x00", "0", "1", "67", "None", "R3", "I", "call", "ret", "j", "la", "subi", "div", "rem", "cseti", "bgt", "sltiu", "auipc", "\xff\xfe", "ａｄｄ", told}
	want := wanted(t)
	names := []string{}
	for _, o := range want {
		names = append(names, o.Name)
		list = append(list, beside(o.Name)...)
	}
	for i, name := range names {
		list = append(list, name+" "+names[(i+1)%len(names)], name+names[(i+1)%len(names)])
	}
	for _, s := range list {
		if slices.Contains(names, s) { // as "add" and "i" is
			continue
		}
		if got, ok := op.Named(s); ok || got != (op.Op{}) {
			t.Errorf("Named(%q): %+v, %v", s, got, ok)
		}
	}
}

func TestCodedNone(t *testing.T) { // P601, P1, P4, P9
	list := []int{0, -1, -2, -66, -67, -68, 68, 69, 127, 128, 255, 256, 1 << 16, math.MinInt32, math.MaxInt32, math.MinInt, math.MinInt + 1, math.MaxInt}
	for n := 1; n <= 67; n++ { // what would be a Code if it were cut, or counted from the end
		list = append(list, -n, n+67, n+1<<8, n+1<<16, n+1<<32, n-1<<8, n-1<<32, n+math.MinInt)
	}
	for _, n := range list {
		if got, ok := op.Coded(n); ok || got != (op.Op{}) {
			t.Errorf("Coded(%d): %+v, %v", n, got, ok)
		}
	}
}

// TestAllIsNew: whatever is done to an answer, its spare room too, no other one
// is changed by it, be it an earlier or a later one.
func TestAllIsNew(t *testing.T) { // P2, P3
	want := wanted(t)
	kept, first, last := op.All(), op.All(), op.All()
	whole := first[:cap(first)]
	for i := range whole {
		whole[i] = op.Op{Code: -1, Name: "changed", Form: -1}
	}
	if !slices.Equal(kept, want) || !slices.Equal(last, want) || !slices.Equal(op.All(), want) {
		t.Error("a changed answer changes others")
	}
	kept, last = append(kept, op.Op{Code: 68, Name: "more", Form: op.N}), append(last, op.Op{Code: 69, Name: "other", Form: op.M})
	if kept[67].Name != "more" || last[67].Name != "other" {
		t.Error("two answers share their spare room")
	}
	for _, o := range want {
		a, _ := op.Named(o.Name)
		b, _ := op.Coded(o.Code)
		if a != o || b != o {
			t.Errorf("a changed answer changes %q: %+v, %+v", o.Name, a, b)
		}
	}
}
