package word_test

import (
	"errors"
	"math"
	"strconv"
	"strings"
	"testing"

	"hasp/api"
	"hasp/word"
)

const top = 1<<32 - 1

var doNames = []string{"add", "sub", "mul", "and", "or", "xor", "sll", "srl", "sra", "slt", "sltu", "divu", "remu"}

var holdsNames = []string{"beq", "bne", "blt", "bge", "bltu", "bgeu"}

// numbers holds each bound that P101 has, and what lies beside it.
func numbers() []uint32 {
	list := []uint32{0, 1, 2, 3, 5, 7, 15, 30, 31, 32, 33, 63, 64, 65, 0x12345678, 0xDEADBEEF, 0x55555555, 0xAAAAAAAA}
	for _, at := range []uint32{8, 16, 24, 31} {
		list = append(list, 1<<at-1, 1<<at, 1<<at+1)
	}
	return append(list, top-32, top-31, top-1, top)
}

// signed tells a number with its sign by its bits alone.
func signed(v uint32) int64 {
	if v >= 1<<31 {
		return int64(v) - 1<<32
	}
	return int64(v)
}

// floor divides towards below, as a shift to the right does.
func floor(a, b int64) int64 {
	q := a / b
	if a%b < 0 {
		q--
	}
	return q
}

// bitwise makes a number of the bits of two, one by one.
func bitwise(a, b uint32, of func(x, y int64) int64) int64 {
	sum := int64(0)
	for i := range 32 {
		sum += of(int64(a>>i%2), int64(b>>i%2)) << i
	}
	return sum
}

func truth(is bool) int64 {
	if is {
		return 1
	}
	return 0
}

// wantDo tells P101 over numbers of 64 bits, to be taken modulo 2^32.
func wantDo(op string, a, b uint32) int64 {
	x, y := int64(a), int64(b)
	power := int64(1) << (b % 32)
	switch op {
	case "add":
		return x + y
	case "sub":
		return x - y
	case "mul":
		return int64(uint64(a) * uint64(b) % (1 << 32))
	case "and":
		return bitwise(a, b, func(p, q int64) int64 { return p * q })
	case "or":
		return bitwise(a, b, func(p, q int64) int64 { return p + q - p*q })
	case "xor":
		return bitwise(a, b, func(p, q int64) int64 { return (p + q) % 2 })
	case "sll":
		return int64(uint64(a) * uint64(power) % (1 << 32))
	case "srl":
		return x / power
	case "sra":
		return floor(signed(a), power)
	case "slt":
		return truth(signed(a) < signed(b))
	case "sltu":
		return truth(x < y)
	case "divu":
		if b == 0 {
			return top
		}
		return x / y
	}
	if b == 0 {
		return x
	}
	return x % y
}

func wantHolds(op string, a, b uint32) bool {
	switch op {
	case "beq":
		return a == b
	case "bne":
		return a != b
	case "blt":
		return signed(a) < signed(b)
	case "bge":
		return signed(a) >= signed(b)
	case "bltu":
		return int64(a) < int64(b)
	}
	return int64(a) >= int64(b)
}

// others: names near to those of P101 that are none of them.
func others() []string {
	list := []string{"", " ", "x", "div", "rem", "mulh", "not", "neg", "sltiu", "sgt", "bgt", "ble", "jal", "li", "mv", "halt", "addu", "\x00", "é", strings.Repeat("add", 100)}
	for _, n := range append(append([]string{}, doNames...), holdsNames...) {
		list = append(list, strings.ToUpper(n), " "+n, n+" ", n+"i", n+"\x00", n+n)
	}
	return list
}

func TestDo(t *testing.T) { // P101, P3
	for _, op := range doNames {
		for _, a := range numbers() {
			for _, b := range numbers() {
				want := uint32(wantDo(op, a, b))
				for range 2 {
					if v, err := word.Do(op, a, b); v != want || err != nil {
						t.Fatalf("Do(%s, %#x, %#x): %#x, %v; want %#x", op, a, b, v, err, want)
					}
				}
			}
		}
	}
}

func TestDoByHand(t *testing.T) { // P101
	for _, c := range []struct {
		op         string
		a, b, want uint32
	}{
		{"add", top, 1, 0}, {"sub", 0, 1, top}, {"mul", top, top, 1}, {"mul", 1 << 31, 2, 0},
		{"and", 0xFF00FF00, 0x0FF00FF0, 0x0F000F00}, {"or", 0xFF00FF00, 0x0FF00FF0, 0xFFF0FFF0}, {"xor", 0xFF00FF00, 0x0FF00FF0, 0xF0F0F0F0},
		{"sll", 1, 31, 1 << 31}, {"sll", 1, 32, 1}, {"sll", 1, top, 1 << 31},
		{"srl", 1 << 31, 31, 1}, {"srl", top, 32, top}, {"srl", top, 36, top >> 4},
		{"sra", 1 << 31, 1, 3 << 30}, {"sra", top, 31, top}, {"sra", 1<<31 - 1, 31, 0}, {"sra", 1 << 31, 32, 1 << 31},
		{"slt", 1 << 31, 0, 1}, {"slt", 1<<31 - 1, 1 << 31, 0}, {"slt", top - 1, top, 1},
		{"sltu", 1 << 31, 0, 0}, {"sltu", 1<<31 - 1, 1 << 31, 1}, {"sltu", top, top, 0},
		{"divu", top, 1, top}, {"divu", 1 << 31, top, 0}, {"divu", 9, 0, top},
		{"remu", top, 10, 5}, {"remu", 9, 0, 9}, {"remu", top, 0, top}, {"remu", 0, 0, 0},
	} {
		if v, err := word.Do(c.op, c.a, c.b); v != c.want || err != nil {
			t.Errorf("Do(%s, %#x, %#x): %#x, %v; want %#x", c.op, c.a, c.b, v, err, c.want)
		}
	}
}

func TestDoOthers(t *testing.T) { // P101, P4
	for _, op := range append(others(), holdsNames...) {
		if v, err := word.Do(op, 5, 6); v != 0 || !errors.Is(err, api.ErrOp) {
			t.Errorf("Do(%q): %d, %v", op, v, err)
		}
	}
}

func TestHolds(t *testing.T) { // P101, P3
	for _, op := range holdsNames {
		for _, a := range numbers() {
			for _, b := range numbers() {
				want := wantHolds(op, a, b)
				for range 2 {
					if is, err := word.Holds(op, a, b); is != want || err != nil {
						t.Fatalf("Holds(%s, %#x, %#x): %v, %v; want %v", op, a, b, is, err, want)
					}
				}
			}
		}
	}
}

func TestHoldsOthers(t *testing.T) { // P101, P4
	for _, op := range append(others(), doNames...) {
		for _, b := range []uint32{4, 5, 6} {
			if is, err := word.Holds(op, 5, b); is || !errors.Is(err, api.ErrOp) {
				t.Errorf("Holds(%q, 5, %d): %v, %v", op, b, is, err)
			}
		}
	}
}

// wantSigned takes away 2^bits where the highest of the bits is set.
func wantSigned(v uint32, bits int) uint32 {
	low := int64(v) % (1 << bits)
	if low >= 1<<(bits-1) {
		low -= 1 << bits
	}
	return uint32(low)
}

func TestSigned(t *testing.T) { // P101
	for bits := 1; bits <= 32; bits++ {
		for _, v := range append(numbers(), 1<<bits-1, 1<<(bits-1), 1<<(bits-1)-1) {
			if got := word.Signed(v, bits); got != wantSigned(v, bits) {
				t.Errorf("Signed(%#x, %d): %#x; want %#x", v, bits, got, wantSigned(v, bits))
			}
		}
	}
}

func TestSignedCut(t *testing.T) { // P101, P1
	for _, v := range numbers() {
		for _, bits := range []int{0, -1, -31, -32, -33, -64, math.MinInt32, math.MinInt} {
			if got := word.Signed(v, bits); got != -(v % 2) {
				t.Errorf("Signed(%#x, %d): %#x", v, bits, got)
			}
		}
		for _, bits := range []int{33, 63, 64, 65, math.MaxInt32, math.MaxInt} {
			if got := word.Signed(v, bits); got != v {
				t.Errorf("Signed(%#x, %d): %#x", v, bits, got)
			}
		}
	}
}

func TestText(t *testing.T) { // P101
	for v, want := range map[uint32]string{0: "0x00000000", 1: "0x00000001", 0xABCDEF: "0x00abcdef", 1 << 28: "0x10000000", 1<<28 - 1: "0x0fffffff", top: "0xffffffff"} {
		if s := word.Text(v); s != want {
			t.Errorf("Text(%#x): %s; want %s", v, s, want)
		}
	}
	for _, v := range numbers() {
		s := word.Text(v)
		back, err := strconv.ParseUint(s, 0, 32)
		if len(s) != 10 || s[:2] != "0x" || s != strings.ToLower(s) || uint32(back) != v || err != nil {
			t.Errorf("Text(%#x): %q", v, s)
		}
	}
}
