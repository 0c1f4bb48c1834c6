package code_test

import (
	"errors"
	"fmt"
	"math"
	"strconv"
	"strings"
	"testing"

	"hasp/api"
	"hasp/code"
	"hasp/op"
)

// has tells which fields a Form has, a letter each: d rd, s rs, t rt, i imm.
func has(form int, field string) bool {
	list := map[int]string{op.None: "", op.R1: "d", op.R2: "ds", op.R3: "dst", op.I: "dsi", op.U: "di", op.B: "dsi", op.J: "di", op.M: "dsi", op.N: "i"}
	return strings.Contains(list[form], field)
}

// of answers the Code of that name.
func of(t *testing.T, name string) int {
	t.Helper()
	o, ok := op.Named(name)
	if !ok {
		t.Fatalf("no op is %q", name)
	}
	return o.Code
}

// told fails unless err is just that Fault itself, or, where want has no
// error, none.
func told(t *testing.T, err error, want api.Fault, what string, of ...any) {
	t.Helper()
	if want.Err == nil {
		if err != nil {
			t.Fatalf("%s: %v; want none", fmt.Sprintf(what, of...), err)
		}
		return
	}
	f, ok := err.(*api.Fault)
	if !ok || *f != want || !errors.Is(err, want.Err) {
		t.Fatalf("%s: %v; want %v", fmt.Sprintf(what, of...), err, &want)
	}
}

// lacks tells Check's Fault from its last rule to its first one, so that the
// first that applies stands.
func lacks(i code.Inst) api.Fault {
	o, ok := op.Coded(i.Op)
	if !ok {
		return api.Fault{Part: "op", At: i.Op, Err: api.ErrOp}
	}
	f := api.Fault{}
	if !has(o.Form, "i") && i.Imm != 0 {
		f = api.Fault{Part: "imm", At: int(i.Imm), Err: api.ErrForm}
	}
	if i.Imm < -32768 || 32767 < i.Imm {
		f = api.Fault{Part: "imm", At: int(i.Imm), Err: api.ErrOver}
	}
	for _, x := range []struct {
		part, field string
		n           int
	}{{"rt", "t", i.Rt}, {"rs", "s", i.Rs}, {"rd", "d", i.Rd}} {
		if !has(o.Form, x.field) && x.n != 0 {
			f = api.Fault{Part: x.part, At: x.n, Err: api.ErrForm}
		}
		if x.n < 0 || 15 < x.n {
			f = api.Fault{Part: x.part, At: x.n, Err: api.ErrRange}
		}
	}
	return f
}

// bits tells the 32 bits of what lacks nothing, by sums alone.
func bits(i code.Inst) uint32 {
	low := int64(i.Imm)
	if low < 0 {
		low += 65536
	}
	return uint32(int64(i.Op)*16777216 + int64(i.Rd)*1048576 + int64(i.Rs)*65536 + int64(i.Rt)*4096 + low)
}

// back tells what Decode answers, by parts alone: what is left of each field
// that the Form does not have is too much.
func back(w uint32) (code.Inst, api.Fault) {
	high := int(w / 16777216)
	o, ok := op.Coded(high)
	if !ok {
		return code.Inst{}, api.Fault{Part: "op", At: high, Err: api.ErrOp}
	}
	i := code.Inst{Op: high}
	d, s, low := int(w/1048576%16), int(w/65536%16), int(w%65536)
	if has(o.Form, "d") {
		i.Rd, d = d, 0
	}
	if has(o.Form, "s") {
		i.Rs, s = s, 0
	}
	if has(o.Form, "t") {
		i.Rt, low = low/4096, low%4096
	}
	if has(o.Form, "i") {
		i.Imm, low = int32(low), 0
		if i.Imm > 32767 {
			i.Imm -= 65536
		}
	}
	if d+s+low != 0 {
		return code.Inst{}, api.Fault{Part: "form", At: int(w % 16777216), Err: api.ErrForm}
	}
	return i, api.Fault{}
}

// numbers holds what lies about a register's bounds, the ends of all ints, and
// what would be a register if it were cut.
func numbers() []int {
	return []int{0, 1, 15, 16, -1, 256, math.MinInt, math.MaxInt}
}

// constants holds the same for Imm.
func constants() []int32 {
	return []int32{0, 1, -1, 32767, 32768, -32768, -32769, 65535, 65536, -65536, math.MinInt32, math.MaxInt32}
}

// codes holds those that there are, and what lies beside them, is cut to them,
// or counts them from the end.
func codes() []int {
	list := []int{math.MinInt, math.MinInt + 1, -1 << 32, -67, -1, math.MaxInt32, math.MaxInt - 1, math.MaxInt, 255, 256, 257, 256 + 67, 1<<16 + 1, 1<<32 + 1, 1<<32 + 67}
	for n := range 70 {
		list = append(list, n)
	}
	return list
}

// every calls f with each Op, register and Imm of these lists together.
func every(f func(i code.Inst)) {
	for _, n := range codes() {
		for _, d := range numbers() {
			for _, s := range numbers() {
				for _, r := range numbers() {
					for _, c := range constants() {
						f(code.Inst{Op: n, Rd: d, Rs: s, Rt: r, Imm: c})
					}
				}
			}
		}
	}
}

// proper calls f with instructions of each op that lack nothing.
func proper(f func(o op.Op, i code.Inst)) {
	for _, o := range op.All() {
		for r := range 16 {
			for _, c := range []int32{0, 1, -1, 9, -10, 255, 256, 4095, 4096, -4096, 12345, -12345, 32767, -32768} {
				i := code.Inst{Op: o.Code, Rd: r, Rs: (r*7 + 3) % 16, Rt: 15 - r, Imm: c}
				if !has(o.Form, "d") {
					i.Rd = 0
				}
				if !has(o.Form, "s") {
					i.Rs = 0
				}
				if !has(o.Form, "t") {
					i.Rt = 0
				}
				if !has(o.Form, "i") {
					i.Imm = 0
				}
				f(o, i)
			}
		}
	}
}

func TestCheck(t *testing.T) { // P701, P3, P6, P9
	every(func(i code.Inst) {
		want := lacks(i)
		told(t, code.Check(i), want, "Check(%+v)", i)
		told(t, code.Check(i), want, "Check(%+v) again", i)
	})
	proper(func(_ op.Op, i code.Inst) { told(t, code.Check(i), api.Fault{}, "Check(%+v)", i) })
}

// TestCheckOrder: of all that is wrong at once what is not mended yet is told,
// field by field.
func TestCheckOrder(t *testing.T) { // P701, P6
	i := code.Inst{Op: 68, Rd: 16, Rs: -1, Rt: 99, Imm: 1 << 20}
	for _, x := range []struct {
		mend func()
		want api.Fault
	}{
		{func() {}, api.Fault{Part: "op", At: 68, Err: api.ErrOp}},
		{func() { i.Op = of(t, "nop") }, api.Fault{Part: "rd", At: 16, Err: api.ErrRange}},
		{func() { i.Rd = 15 }, api.Fault{Part: "rd", At: 15, Err: api.ErrForm}},
		{func() { i.Op = of(t, "out") }, api.Fault{Part: "rs", At: -1, Err: api.ErrRange}},
		{func() { i.Rs = 15 }, api.Fault{Part: "rs", At: 15, Err: api.ErrForm}},
		{func() { i.Op = of(t, "center") }, api.Fault{Part: "rt", At: 99, Err: api.ErrRange}},
		{func() { i.Rt = 15 }, api.Fault{Part: "rt", At: 15, Err: api.ErrForm}},
		{func() { i.Op = of(t, "cseal") }, api.Fault{Part: "imm", At: 1 << 20, Err: api.ErrOver}},
		{func() { i.Imm = -32768 }, api.Fault{Part: "imm", At: -32768, Err: api.ErrForm}},
		{func() { i.Imm = 0 }, api.Fault{}},
	} {
		x.mend()
		told(t, code.Check(i), x.want, "Check(%+v)", i)
		w, err := code.Encode(i)
		told(t, err, x.want, "Encode(%+v)", i)
		if x.want.Err != nil && w != 0 {
			t.Fatalf("Encode(%+v): %#x beside an error", i, w)
		}
	}
}

// TestCheckByHand: of each Form the first field that it does not have.
func TestCheckByHand(t *testing.T) { // P701
	for _, x := range []struct {
		name string
		i    code.Inst
		want string
	}{
		{"nop", code.Inst{Rd: 1}, "rd 1: form"}, {"halt", code.Inst{Imm: -1}, "imm -1: form"},
		{"in", code.Inst{Rd: 15, Rs: 2}, "rs 2: form"}, {"out", code.Inst{Rd: 15, Imm: 32767}, "imm 32767: form"},
		{"mv", code.Inst{Rd: 15, Rs: 15, Rt: 3}, "rt 3: form"}, {"ctag", code.Inst{Rs: 15, Imm: 4}, "imm 4: form"},
		{"csub", code.Inst{Rd: 15, Rs: 15, Rt: 15, Imm: 5}, "imm 5: form"}, {"add", code.Inst{Rd: 15, Rs: 15, Rt: 15, Imm: 32768}, "imm 32768: over"},
		{"jalr", code.Inst{Rd: 15, Rs: 15, Rt: 1, Imm: 6}, "rt 1: form"}, {"cinci", code.Inst{Imm: -32769}, "imm -32769: over"},
		{"auipcc", code.Inst{Rd: 15, Rs: 1}, "rs 1: form"}, {"lui", code.Inst{Rd: 15, Rt: 1}, "rt 1: form"},
		{"bgeu", code.Inst{Rd: 15, Rs: 15, Rt: 1}, "rt 1: form"}, {"jal", code.Inst{Rd: 1, Rs: 1}, "rs 1: form"},
		{"sc", code.Inst{Rd: 15, Rs: 15, Rt: 1}, "rt 1: form"}, {"ecall", code.Inst{Rd: 1}, "rd 1: form"}, {"ecall", code.Inst{Rt: 1}, "rt 1: form"},
	} {
		x.i.Op = of(t, x.name)
		if err := code.Check(x.i); err == nil || err.Error() != x.want {
			t.Errorf("Check(%s %+v): %v; want %s", x.name, x.i, err, x.want)
		}
	}
}

func TestEncode(t *testing.T) { // P701, P3, P4
	every(func(i code.Inst) {
		f := lacks(i)
		want := uint32(0)
		if f.Err == nil {
			want = bits(i)
		}
		got, err := code.Encode(i)
		told(t, err, f, "Encode(%+v)", i)
		if again, _ := code.Encode(i); got != want || again != want {
			t.Fatalf("Encode(%+v): %#08x, %#08x; want %#08x", i, got, again, want)
		}
	})
}

// TestThereAndBack: what lacks nothing is encoded by the sum, and decoded to
// what it was.
func TestThereAndBack(t *testing.T) { // P701
	hold := func(i code.Inst) {
		w, err := code.Encode(i)
		if w != bits(i) || err != nil {
			t.Fatalf("Encode(%+v): %#08x, %v; want %#08x", i, w, err, bits(i))
		}
		if x, err := code.Decode(w); x != i || err != nil {
			t.Fatalf("Decode(%#08x): %+v, %v; want %+v", w, x, err, i)
		}
	}
	proper(func(_ op.Op, i code.Inst) { hold(i) })
	for c := -32768; c <= 32767; c++ {
		for _, name := range []string{"addi", "li", "sb", "bne", "jal", "ecall"} {
			hold(code.Inst{Op: of(t, name), Imm: int32(c)})
		}
	}
	for n := range 4096 {
		hold(code.Inst{Op: of(t, "ceq"), Rd: n / 256, Rs: n / 16 % 16, Rt: n % 16})
	}
}

func TestBitsByHand(t *testing.T) { // P701
	for _, x := range []struct {
		name string
		i    code.Inst
		w    uint32
	}{
		{"add", code.Inst{}, 0x01000000}, {"add", code.Inst{Rd: 15}, 0x01F00000}, {"add", code.Inst{Rs: 15}, 0x010F0000}, {"add", code.Inst{Rt: 15}, 0x0100F000},
		{"remu", code.Inst{Rd: 1, Rs: 2, Rt: 4}, 0x0D124000}, {"ceq", code.Inst{Rd: 8, Rs: 4, Rt: 2}, 0x2B842000},
		{"addi", code.Inst{Rd: 8, Rs: 1, Imm: 0x1234}, 0x0E811234}, {"cinci", code.Inst{Rd: 2, Rs: 9, Imm: -32768}, 0x20298000}, {"jalr", code.Inst{Rs: 1}, 0x3D010000},
		{"lui", code.Inst{Rd: 15, Imm: -2}, 0x16F0FFFE}, {"auipcc", code.Inst{Rd: 3, Imm: 32767}, 0x3E307FFF},
		{"bgeu", code.Inst{Rd: 6, Rs: 7, Imm: -1}, 0x3B67FFFF}, {"jal", code.Inst{Rd: 1, Imm: 0x4321}, 0x3C104321}, {"lb", code.Inst{Rd: 10, Rs: 11, Imm: 12}, 0x2CAB000C},
		{"center", code.Inst{Rd: 5, Rs: 10}, 0x285A0000}, {"out", code.Inst{Rd: 15}, 0x40F00000}, {"ecall", code.Inst{Imm: -32768}, 0x42008000}, {"nop", code.Inst{}, 0x43000000},
	} {
		x.i.Op = of(t, x.name)
		if w, err := code.Encode(x.i); w != x.w || err != nil {
			t.Errorf("Encode(%s %+v): %#08x, %v; want %#08x", x.name, x.i, w, err, x.w)
		}
		if i, err := code.Decode(x.w); i != x.i || err != nil {
			t.Errorf("Decode(%#08x): %+v, %v; want %+v", x.w, i, err, x.i)
		}
	}
}

// lows holds 24 bits of many kinds: each bit alone, each two, all but these,
// and many that follow no rule.
func lows() []uint32 {
	list := []uint32{0, 1<<24 - 1, 0x00F000, 0xFFF000, 0xFF0000, 0xF00000, 0x000FFF, 0xFFFFFF, 0x00FFFF, 0xF0FFFF, 0x0F0000, 0x008000, 0x007FFF}
	for i := range 24 {
		for j := range i + 1 {
			list = append(list, 1<<i|1<<j, 1<<24-1-(1<<i|1<<j))
		}
	}
	for k := range uint32(2000) {
		list = append(list, k*2654435761>>8, k*2654435761>>8&0xFFF000, k*2654435761>>8&0xFF0000, k*2654435761>>8&0xF0FFFF)
	}
	return list
}

func TestDecode(t *testing.T) { // P701, P1, P3, P4, P6
	for high := range uint32(256) {
		for _, low := range lows() {
			w := high<<24 | low
			want, f := back(w)
			got, err := code.Decode(w)
			told(t, err, f, "Decode(%#08x)", w)
			if again, _ := code.Decode(w); got != want || again != want {
				t.Fatalf("Decode(%#08x): %+v, %+v; want %+v", w, got, again, want)
			}
			if err != nil {
				continue
			}
			if v, err := code.Encode(got); v != w || err != nil {
				t.Fatalf("Encode(%+v): %#08x, %v; want %#08x", got, v, err, w)
			}
		}
	}
}

func TestDecodeByHand(t *testing.T) { // P701, P4
	for w, want := range map[uint32]string{
		0x00000000: "op 0: op", 0x00FFFFFF: "op 0: op", 0x44000001: "op 68: op", 0x80000000: "op 128: op", 0xFF000000: "op 255: op",
		0x01000FFF: "form 4095: form", 0x0D000800: "form 2048: form", 0x17008000: "form 32768: form", 0x28FFF000: "form 16773120: form", 0x40080000: "form 524288: form",
		0x3F00F000: "form 61440: form", 0x16010000: "form 65536: form", 0x3EFFFFFF: "form 16777215: form", 0x3C080000: "form 524288: form", 0x42100000: "form 1048576: form",
		0x42010000: "form 65536: form", 0x41800000: "form 8388608: form", 0x43000001: "form 1: form", 0x43FFFFFF: "form 16777215: form",
	} {
		if i, err := code.Decode(w); err == nil || err.Error() != want || i != (code.Inst{}) {
			t.Errorf("Decode(%#08x): %+v, %v; want %s", w, i, err, want)
		}
	}
}

// wantText tells P701's text by the Form's own line in chapter 6.
func wantText(o op.Op, i code.Inst) string {
	like := map[int]string{op.None: "", op.R1: " rd", op.R2: " rd, rs", op.R3: " rd, rs, rt", op.I: " rd, rs, imm", op.U: " rd, imm", op.B: " rd, rs, imm", op.J: " rd, imm", op.M: " rd, imm(rs)", op.N: " imm"}
	r := strings.NewReplacer("rd", fmt.Sprint("c", i.Rd), "rs", fmt.Sprint("c", i.Rs), "rt", fmt.Sprint("c", i.Rt), "imm", strconv.Itoa(int(i.Imm)))
	return o.Name + r.Replace(like[o.Form])
}

func TestText(t *testing.T) { // P701, P3
	proper(func(o op.Op, i code.Inst) {
		for range 2 {
			if s := code.Text(i); s != wantText(o, i) {
				t.Fatalf("Text(%+v): %q; want %q", i, s, wantText(o, i))
			}
		}
	})
}

func TestTextByHand(t *testing.T) { // P701
	for _, x := range []struct {
		name string
		i    code.Inst
		want string
	}{
		{"sub", code.Inst{Rd: 15, Rs: 0, Rt: 10}, "sub c15, c0, c10"}, {"add", code.Inst{}, "add c0, c0, c0"}, {"candpi", code.Inst{Rd: 1, Rs: 2, Imm: -32768}, "candpi c1, c2, -32768"},
		{"jalr", code.Inst{Rd: 0, Rs: 1}, "jalr c0, c1, 0"}, {"lui", code.Inst{Rd: 3, Imm: 32767}, "lui c3, 32767"}, {"auipcc", code.Inst{Rd: 14, Imm: -1}, "auipcc c14, -1"},
		{"cclear", code.Inst{Rd: 7, Rs: 7}, "cclear c7, c7"}, {"cunseal", code.Inst{Rd: 4, Rs: 5, Rt: 6}, "cunseal c4, c5, c6"}, {"lc", code.Inst{Rd: 2, Rs: 15, Imm: -16}, "lc c2, -16(c15)"},
		{"sw", code.Inst{Rd: 9, Rs: 3}, "sw c9, 0(c3)"}, {"bltu", code.Inst{Rd: 5, Rs: 6, Imm: -3}, "bltu c5, c6, -3"}, {"jal", code.Inst{Rd: 1, Imm: 100}, "jal c1, 100"},
		{"in", code.Inst{}, "in c0"}, {"out", code.Inst{Rd: 12}, "out c12"}, {"halt", code.Inst{}, "halt"}, {"ecall", code.Inst{}, "ecall 0"}, {"ecall", code.Inst{Imm: -7}, "ecall -7"}, {"nop", code.Inst{}, "nop"},
	} {
		x.i.Op = of(t, x.name)
		if s := code.Text(x.i); s != x.want {
			t.Errorf("Text(%s %+v): %q; want %q", x.name, x.i, s, x.want)
		}
	}
}

// TestTextOfAny: of what Check refuses nothing is said but that it ends.
func TestTextOfAny(t *testing.T) { // P1, P8
	every(func(i code.Inst) { code.Text(i) })
}

// TestFaultsAreNew: whatever is done to a Fault that was answered, no other one
// is changed by it.
func TestFaultsAreNew(t *testing.T) { // P2, P3
	for _, tell := range []func() error{
		func() error { return code.Check(code.Inst{}) },
		func() error { return code.Check(code.Inst{Op: 1, Rd: 16}) },
		func() error { return code.Check(code.Inst{Op: 67, Rs: 1}) },
		func() error { _, err := code.Encode(code.Inst{Op: 1, Imm: 1 << 20}); return err },
		func() error { _, err := code.Decode(0); return err },
		func() error { _, err := code.Decode(0x43000001); return err },
	} {
		var kept, first *api.Fault
		if !errors.As(tell(), &kept) || !errors.As(tell(), &first) {
			t.Fatalf("no Fault: %v", tell())
		}
		want := *kept
		*first = api.Fault{Part: "changed", At: -7, Err: api.ErrHalt}
		if *kept != want {
			t.Fatalf("a changed Fault changes an earlier one: %v; want %v", kept, &want)
		}
		told(t, tell(), want, "behind a changed Fault")
	}
}
