package alu_test

import (
	"errors"
	"math"
	"slices"
	"strings"
	"testing"

	"hasp/alu"
	"hasp/api"
	"hasp/cap"
	"hasp/op"
	"hasp/word"
)

const last = 1<<32 - 1

// The names of P901, by what they are made of.
var (
	words     = strings.Fields("add sub mul and or xor sll srl sra slt sltu divu remu")
	wordsImm  = strings.Fields("addi andi ori xori slli srli slti")
	constants = strings.Fields("li lui")
	parts     = strings.Fields("cbase ctop caddr cperm ctype ctag")
	alone     = strings.Fields("mv cclear center")
	pairs     = strings.Fields("csetaddr cinc cbounds candp cseal cunseal csub csubset ceq")
	capsImm   = strings.Fields("cinci cboundsi candpi")
)

func names() []string {
	return slices.Concat(words, wordsImm, constants, parts, alone, pairs, capsImm)
}

// numbers holds the ends of all numbers, and what lies beside each bound.
func numbers() []uint32 {
	return []uint32{0, 1, 2, 9, 31, 32, 33, 100, 150, 200, 201, 1023, 1024, 1<<16 - 1, 1 << 16, 1<<16 + 9, 1<<31 - 1, 1 << 31, 1<<31 + 1, last - 49, last - 1, last}
}

func constantsOf() []int32 {
	return []int32{math.MinInt32, math.MinInt32 + 1, -65537, -65536, -32769, -32768, -101, -100, -50, -2, -1, 0, 1, 5, 9, 31, 32, 33, 49, 50, 51, 64, 127, 32767, 32768, 65535, 65536, 65537, math.MaxInt32 - 1, math.MaxInt32}
}

// caps: capabilities open and sealed, numbers, and what is neither.
func caps() []cap.Cap {
	list := []cap.Cap{}
	for _, v := range numbers() {
		list = append(list, cap.Int(v), cap.Cap{Tag: true, Base: 100, Top: 200, Addr: v, Perm: api.All}, cap.Cap{Base: 100, Top: 200, Addr: v, Perm: api.All})
	}
	for _, kind := range []uint16{0, 1, 2, 9, 1023, 1024, 1<<16 - 1} {
		for _, perm := range []uint16{0, api.R, api.X, api.SE, api.UN, api.All &^ api.X, 1 << 15, 1<<16 - 1} {
			list = append(list, cap.Cap{Tag: true, Base: 100, Top: 200, Addr: 150, Perm: perm, Type: kind}, cap.Cap{Base: 100, Top: 200, Addr: 150, Perm: perm, Type: kind},
				cap.Cap{Tag: true, Base: 0, Top: last, Addr: 9, Perm: perm, Type: kind})
		}
	}
	return append(list, cap.Root(0), cap.Root(65536), cap.Cap{Tag: true}, cap.Cap{Tag: true, Base: 9, Top: 3, Addr: last, Perm: 1<<16 - 1},
		cap.Cap{Tag: true, Base: 120, Top: 180, Addr: 150, Perm: api.All}, cap.Cap{Tag: true, Base: 0, Top: 1024, Addr: 9, Perm: api.SE | api.UN})
}

// unsigned tells the 32 bits of imm by its worth alone.
func unsigned(imm int32) uint32 { return uint32((int64(imm) + 1<<32) % (1 << 32)) }

// low tells the lowest 16 bits by division alone.
func low(v uint32) uint16 { return uint16(v - v/65536*65536) }

// together tells a sum that wraps round.
func together(a uint32, b int64) uint32 { return uint32((int64(a) + b + 1<<32) % (1 << 32)) }

func truth(is bool) uint32 {
	if is {
		return 1
	}
	return 0
}

func below(a, b cap.Cap) bool {
	return a.Base >= b.Base && a.Top <= b.Top && a.Perm|b.Perm == b.Perm
}

func wordOf(name string, a, b uint32) uint32 {
	v, err := word.Do(name, a, b)
	if err != nil {
		panic(name)
	}
	return v
}

// wantNumber tells P901 of the names that answer numbers, one by one; false: of
// another name.
func wantNumber(name string, a, b cap.Cap, imm int32) (uint32, bool) {
	switch name {
	case "addi":
		return together(a.Addr, int64(imm)), true
	case "andi":
		return wordOf("and", a.Addr, unsigned(imm)), true
	case "ori":
		return wordOf("or", a.Addr, unsigned(imm)), true
	case "xori":
		return wordOf("xor", a.Addr, unsigned(imm)), true
	case "slli":
		return wordOf("sll", a.Addr, unsigned(imm)), true
	case "srli":
		return wordOf("srl", a.Addr, unsigned(imm)), true
	case "slti":
		return truth(int64(int32(a.Addr)) < int64(imm)), true
	case "li":
		return unsigned(imm), true
	case "lui":
		return uint32(low(unsigned(imm))) * 65536, true
	case "cbase":
		return a.Base, true
	case "ctop":
		return a.Top, true
	case "caddr":
		return a.Addr, true
	case "cperm":
		return uint32(a.Perm), true
	case "ctype":
		return uint32(a.Type), true
	case "ctag":
		return truth(a.Tag), true
	case "csub":
		return together(a.Addr, -int64(b.Addr)), true
	case "csubset":
		return truth(a.Tag && b.Tag && below(a, b)), true
	case "ceq":
		return truth(a.Tag == b.Tag && a.Base == b.Base && a.Top == b.Top && a.Addr == b.Addr && a.Perm == b.Perm && a.Type == b.Type), true
	}
	if slices.Contains(words, name) {
		return wordOf(name, a.Addr, b.Addr), true
	}
	return 0, false
}

// want tells P901.
func want(name string, a, b cap.Cap, imm int32) cap.Cap {
	if v, is := wantNumber(name, a, b, imm); is {
		return cap.Cap{Addr: v}
	}
	switch name {
	case "csetaddr":
		return cap.SetAddr(a, b.Addr)
	case "cinc":
		return cap.SetAddr(a, together(a.Addr, int64(b.Addr)))
	case "cinci":
		return cap.SetAddr(a, together(a.Addr, int64(imm)))
	case "cbounds":
		return cap.Bounds(a, b.Addr)
	case "cboundsi":
		if imm < 0 {
			return cap.Cap{Base: a.Addr, Top: a.Addr, Addr: a.Addr, Perm: a.Perm, Type: a.Type}
		}
		return cap.Bounds(a, unsigned(imm))
	case "candp":
		return cap.AndPerm(a, low(b.Addr))
	case "candpi":
		return cap.AndPerm(a, low(unsigned(imm)))
	case "cclear":
		return cap.Clear(a)
	case "cseal":
		return cap.Seal(a, b)
	case "cunseal":
		return cap.Unseal(a, b)
	case "center":
		return cap.Enter(a)
	}
	return a // mv
}

// check holds an answer against P901's, twice (P3), and against P902.
func check(t *testing.T, name string, a, b cap.Cap, imm int32) {
	t.Helper()
	for range 2 {
		if v, err := alu.Do(name, a, b, imm); v != want(name, a, b, imm) || err != nil {
			t.Fatalf("P901: Do(%s, %s, %s, %d): %s, %v; want %s", name, cap.Text(a), cap.Text(b), imm, cap.Text(v), err, cap.Text(want(name, a, b, imm)))
		}
	}
	if v, _ := alu.Do(name, a, b, imm); v.Tag && !(a.Tag && below(v, a)) {
		t.Fatalf("P902: Do(%s, %s, %s, %d): %s is more", name, cap.Text(a), cap.Text(b), imm, cap.Text(v))
	}
}

// TestDo: each name over all pairs, with a constant that is none of its own,
// and with all constants.
func TestDo(t *testing.T) { // P901, P902, P3, P4
	for _, name := range names() {
		for i, a := range caps() {
			for j, b := range caps() {
				check(t, name, a, b, constantsOf()[(i+j)%len(constantsOf())])
			}
			for _, imm := range constantsOf() {
				check(t, name, a, cap.Int(7), imm)
				check(t, name, a, a, imm)
			}
		}
	}
}

// TestWhatIsNotAsked: b of an op that has none, imm of one that has none, and
// all but the address where that alone is asked, change no answer.
func TestWhatIsNotAsked(t *testing.T) { // P901
	for _, name := range names() {
		hasImm := slices.Contains(slices.Concat(wordsImm, constants, capsImm), name)
		hasB := slices.Contains(slices.Concat(words, pairs), name)
		whole := slices.Contains([]string{"cseal", "cunseal", "csubset", "ceq"}, name)
		for _, a := range caps() {
			for _, b := range caps() {
				first, _ := alu.Do(name, a, b, 5)
				if other, _ := alu.Do(name, a, b, -77); !hasImm && other != first {
					t.Fatalf("%s: imm is asked: %s, %s", name, cap.Text(a), cap.Text(b))
				}
				if other, _ := alu.Do(name, a, cap.Int(b.Addr), 5); !whole && other != first {
					t.Fatalf("%s: more than b's address is asked: %s, %s", name, cap.Text(a), cap.Text(b))
				}
				if other, _ := alu.Do(name, a, cap.Root(77), 5); !hasB && other != first {
					t.Fatalf("%s: b is asked: %s, %s", name, cap.Text(a), cap.Text(b))
				}
			}
		}
	}
}

func TestNumbersByHand(t *testing.T) { // P901
	a := cap.Cap{Tag: true, Base: 5, Top: 900, Addr: 1<<31 + 5, Perm: 0xFFFF, Type: 0xFFFE}
	for _, x := range []struct {
		name string
		b    uint32
		imm  int32
		want uint32
	}{
		{"add", 1 << 31, 9, 5}, {"sub", 6, 9, 1<<31 - 1}, {"sll", 33, 9, 10}, {"sra", 31, 9, last}, {"slt", 0, 9, 1}, {"sltu", 0, 9, 0}, {"divu", 0, 9, last}, {"remu", 0, 9, 1<<31 + 5},
		{"addi", 9, math.MinInt32, 5}, {"addi", 9, -6, 1<<31 - 1}, {"andi", 9, -1, 1<<31 + 5}, {"andi", 9, 4, 4}, {"ori", 9, -32768, last - 32767 + 5}, {"ori", 9, 2, 1<<31 + 7}, {"xori", 9, -1, 1<<31 - 6}, {"xori", 9, 5, 1 << 31},
		{"slli", 9, 1, 10}, {"slli", 9, 32, 1<<31 + 5}, {"slli", 9, -31, 10}, {"srli", 9, 31, 1}, {"srli", 9, -1, 1}, {"slti", 9, -1, 1}, {"slti", 9, math.MinInt32, 0}, {"slti", 9, math.MinInt32 + 6, 1}, {"slti", 9, math.MinInt32 + 5, 0},
		{"li", 9, -32768, last - 32767}, {"li", 9, 32767, 32767}, {"li", 9, math.MinInt32, 1 << 31},
		{"lui", 9, -32768, 1 << 31}, {"lui", 9, 32767, 0x7FFF0000}, {"lui", 9, 65536, 0}, {"lui", 9, 0x12345678, 0x56780000}, {"lui", 9, -1, 0xFFFF0000},
		{"cbase", 9, 9, 5}, {"ctop", 9, 9, 900}, {"caddr", 9, 9, 1<<31 + 5}, {"cperm", 9, 9, 0xFFFF}, {"ctype", 9, 9, 0xFFFE}, {"ctag", 9, 9, 1},
		{"csub", 5, 9, 1 << 31}, {"csub", 1<<31 + 6, 9, last}, {"csubset", 5, 9, 0}, {"ceq", 1<<31 + 5, 9, 0},
	} {
		if v, err := alu.Do(x.name, a, cap.Int(x.b), x.imm); v != cap.Int(x.want) || err != nil {
			t.Errorf("Do(%s, .., %#x, %d): %s, %v; want %#x", x.name, x.b, x.imm, cap.Text(v), err, x.want)
		}
	}
}

func TestCapsByHand(t *testing.T) { // P901
	a := cap.Cap{Tag: true, Base: 100, Top: 200, Addr: 150, Perm: api.All}
	k := cap.Cap{Tag: true, Base: 0, Top: 64, Addr: 9, Perm: api.SE | api.UN}
	sealed := cap.Seal(a, k)
	for _, x := range []struct {
		name string
		a, b cap.Cap
		imm  int32
		want string
	}{
		{"mv", sealed, k, 9, "![0x00000064,0x000000c8) 0x00000096 p127 t9"},
		{"csetaddr", a, cap.Int(last), 9, "![0x00000064,0x000000c8) 0xffffffff p127 t0"}, {"csetaddr", sealed, cap.Int(150), 9, "-[0x00000064,0x000000c8) 0x00000096 p127 t9"},
		{"cinc", a, cap.Int(last), 9, "![0x00000064,0x000000c8) 0x00000095 p127 t0"}, {"cinci", a, k, -151, "![0x00000064,0x000000c8) 0xffffffff p127 t0"}, {"cinci", a, k, 32767, "![0x00000064,0x000000c8) 0x00008095 p127 t0"},
		{"cinci", sealed, k, 0, "-[0x00000064,0x000000c8) 0x00000096 p127 t9"}, {"cinci", cap.Clear(a), k, 1, "-[0x00000064,0x000000c8) 0x00000097 p127 t0"},
		{"cbounds", a, cap.Int(50), 9, "![0x00000096,0x000000c8) 0x00000096 p127 t0"}, {"cbounds", a, cap.Int(51), 9, "-[0x00000096,0x000000c9) 0x00000096 p127 t0"}, {"cbounds", a, cap.Int(last), 9, "-[0x00000096,0x00000095) 0x00000096 p127 t0"},
		{"cboundsi", a, k, 50, "![0x00000096,0x000000c8) 0x00000096 p127 t0"}, {"cboundsi", a, k, 51, "-[0x00000096,0x000000c9) 0x00000096 p127 t0"}, {"cboundsi", a, k, 0, "![0x00000096,0x00000096) 0x00000096 p127 t0"},
		{"cboundsi", a, k, -1, "-[0x00000096,0x00000096) 0x00000096 p127 t0"}, {"cboundsi", a, k, math.MinInt32, "-[0x00000096,0x00000096) 0x00000096 p127 t0"}, {"cboundsi", cap.Cap{Tag: true, Top: last, Perm: 1}, k, -2, "-[0x00000000,0x00000000) 0x00000000 p1 t0"},
		{"candp", a, cap.Int(0xABCD0005), 9, "![0x00000064,0x000000c8) 0x00000096 p5 t0"}, {"candp", a, cap.Int(1 << 16), 9, "![0x00000064,0x000000c8) 0x00000096 p0 t0"}, {"candpi", a, k, -2, "![0x00000064,0x000000c8) 0x00000096 p126 t0"},
		{"candpi", a, k, 65536, "![0x00000064,0x000000c8) 0x00000096 p0 t0"}, {"candpi", sealed, k, -1, "-[0x00000064,0x000000c8) 0x00000096 p127 t9"},
		{"cclear", sealed, k, 9, "-[0x00000064,0x000000c8) 0x00000096 p127 t9"}, {"cseal", a, k, 9, "![0x00000064,0x000000c8) 0x00000096 p127 t9"}, {"cseal", k, a, 9, "![0x00000000,0x00000040) 0x00000009 p96 t150"},
		{"cunseal", sealed, k, 9, "![0x00000064,0x000000c8) 0x00000096 p127 t0"}, {"cunseal", k, sealed, 9, "-[0x00000000,0x00000040) 0x00000009 p96 t0"}, {"center", a, k, 9, "![0x00000064,0x000000c8) 0x00000096 p127 t1"},
		{"center", k, a, 9, "-[0x00000000,0x00000040) 0x00000009 p96 t1"}, {"csubset", sealed, a, 9, cap.Text(cap.Int(1))}, {"csubset", cap.Bounds(a, 1), a, 9, cap.Text(cap.Int(1))}, {"csubset", a, cap.Bounds(a, 1), 9, cap.Text(cap.Int(0))},
		{"csubset", cap.Clear(a), a, 9, cap.Text(cap.Int(0))}, {"csubset", a, cap.Clear(a), 9, cap.Text(cap.Int(0))}, {"ceq", a, a, 9, cap.Text(cap.Int(1))}, {"ceq", a, cap.Clear(a), 9, cap.Text(cap.Int(0))}, {"ceq", sealed, a, 9, cap.Text(cap.Int(0))},
	} {
		if v, err := alu.Do(x.name, x.a, x.b, x.imm); cap.Text(v) != x.want || err != nil {
			t.Errorf("Do(%s, %s, %s, %d): %s, %v; want %s", x.name, cap.Text(x.a), cap.Text(x.b), x.imm, cap.Text(v), err, x.want)
		}
	}
}

// others: the names of all other ops, and names near to those of P901.
func others() []string {
	list := []string{"", " ", "i", "c", "x", "subi", "muli", "srai", "sltui", "sltiu", "divui", "remui", "div", "not", "neg", "l", "lu", "luii", "mvi", "cin", "cbound", "cand", "csetaddri", "csubi", "csubseti", "ceqi", "cseali", "clear", "seal", "unseal", "enter", "cset", "inc", "bounds", "andp", "cboundsii", "addii", "\x00", "é", strings.Repeat("add", 100)}
	for _, o := range op.All() {
		if !slices.Contains(names(), o.Name) {
			list = append(list, o.Name)
		}
	}
	for _, n := range names() {
		list = append(list, strings.ToUpper(n), " "+n, n+" ", n+"\x00", n+n, n+"\n", "c"+n+"i", strings.ToUpper(n[:1])+n[1:])
		if !slices.Contains(names(), n[:len(n)-1]) {
			list = append(list, n[:len(n)-1])
		}
		if !slices.Contains(names(), n[1:]) {
			list = append(list, n[1:])
		}
		if !slices.Contains(names(), n+"i") {
			list = append(list, n+"i")
		}
	}
	return list
}

func TestOthers(t *testing.T) { // P901, P1, P4
	for _, name := range others() {
		for _, a := range []cap.Cap{{}, cap.Root(64), cap.Int(last)} {
			v, err := alu.Do(name, a, cap.Root(32), -1)
			var f *api.Fault
			if v != (cap.Cap{}) || !errors.As(err, &f) || f.Part != "alu" || f.At != 0 || !errors.Is(err, api.ErrOp) || err.Error() != "alu 0: op" {
				t.Errorf("Do(%q): %s, %v", name, cap.Text(v), err)
			}
		}
		if alu.Is(name) {
			t.Errorf("Is(%q)", name)
		}
	}
}

func TestIs(t *testing.T) { // P901, P3
	for _, name := range names() {
		if !alu.Is(name) || !alu.Is(name) {
			t.Errorf("Is(%q): false", name)
		}
	}
	count := 0
	for _, o := range op.All() {
		if alu.Is(o.Name) {
			count++
		}
	}
	if count != 43 || len(names()) != 43 {
		t.Errorf("%d ops, %d names; want 43", count, len(names()))
	}
}

// TestAuthority: whatever is made of one capability, and of what was made of
// it, stays within it, with another one at hand.
func TestAuthority(t *testing.T) { // P902, P901
	seed := uint32(26)
	next := func(n int) int {
		seed = seed*1664525 + 1013904223
		return int(seed>>8) % n
	}
	list, nums, imms := names(), numbers(), constantsOf()
	for range 2000 {
		root := cap.Cap{Tag: true, Base: 64, Top: 1<<10 + uint32(next(64)), Addr: 64 + uint32(next(900)), Perm: uint16(next(1 << 7))}
		made := []cap.Cap{root, cap.Int(9), cap.Cap{Tag: true, Top: 1024, Addr: uint32(next(12)), Perm: api.SE | api.UN, Type: uint16(next(3))}}
		key := made[2]
		for range 60 {
			name, a, b := list[next(len(list))], made[next(len(made))], made[next(len(made))]
			if next(3) == 0 {
				b = cap.Int(nums[next(len(nums))])
			}
			imm := imms[next(len(imms))]
			check(t, name, a, b, imm)
			v, _ := alu.Do(name, a, b, imm)
			if v.Tag && !below(v, root) && !below(v, key) {
				t.Fatalf("P902: %s of %s: %s", name, cap.Text(a), cap.Text(v))
			}
			made = append(made, v)
		}
	}
}
