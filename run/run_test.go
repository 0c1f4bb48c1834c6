package run_test

import (
	"errors"
	"math"
	"slices"
	"strconv"
	"testing"

	"hasp/api"
	"hasp/cap"
	"hasp/code"
	"hasp/mem"
	"hasp/op"
	"hasp/regs"
	"hasp/run"
	"hasp/step"
)

const (
	last = 1<<32 - 1
	most = 1000000
)

// copied answers a machine like s, made without step.Twin.
func copied(s *step.State) *step.State {
	w := &step.State{Regs: regs.New(), PCC: s.PCC, Mem: s.Mem.Twin()}
	for i, c := range s.Regs.All() {
		w.Regs.Set(i, c)
	}
	w.In = append([]uint32{}, s.In...)
	w.Out = append([]uint32{}, s.Out...)
	return w
}

func same(a, b *step.State) bool {
	return a.Regs.All() == b.Regs.All() && a.PCC == b.PCC && a.Mem.Same(b.Mem) && slices.Equal(a.In, b.In) && slices.Equal(a.Out, b.Out)
}

// told tells all of a machine but its bytes.
func told(s *step.State) string {
	line := cap.Text(s.PCC)
	for n, c := range s.Regs.All() {
		if c != (cap.Cap{}) {
			line += "; c" + strconv.Itoa(n) + " " + cap.Text(c)
		}
	}
	line += "; " + strconv.Itoa(len(s.In)) + " to read, told"
	for _, v := range s.Out[:min(9, len(s.Out))] {
		line += " " + strconv.Itoa(int(v))
	}
	return line + " of " + strconv.Itoa(len(s.Out))
}

func text(err error) string {
	if err == nil {
		return ""
	}
	return err.Error()
}

// alike tells whether two runs ended alike.
func alike(a, b run.End) bool {
	return a.Steps == b.Steps && a.Event == b.Event && text(a.Err) == text(b.Err)
}

// ended tells an End in a line.
func ended(e run.End) string {
	return strconv.Itoa(e.Steps) + " steps, kind " + strconv.Itoa(e.Event.Kind) + ", code " + strconv.Itoa(int(e.Event.Code)) + ", " + strconv.Quote(text(e.Err))
}

// byHand tells P1101 of Run and Trace, step by step.
func byHand(s *step.State, fuel int) (run.End, []uint32) {
	var places []uint32
	for n := range most {
		if n >= fuel {
			return run.End{Steps: n}, places
		}
		places = append(places, s.PCC.Addr)
		event, err := step.Step(s)
		if err != nil {
			return run.End{Steps: n, Err: err}, places
		}
		if event.Kind == step.Halt || event.Kind == step.Call {
			return run.End{Steps: n + 1, Event: event}, places
		}
	}
	return run.End{Steps: most}, places
}

// check runs machines like s, and holds all that is told and what they have
// behind it against what is done by hand. It answers the machine behind it.
func check(t *testing.T, s *step.State, fuel int) (*step.State, run.End) {
	t.Helper()
	hand := copied(s)
	want, places := byHand(hand, fuel)
	var was *step.State
	for range 2 {
		was = copied(s)
		if e := run.Run(was, fuel); !alike(e, want) || !same(was, hand) {
			t.Fatalf("P1101: Run of %d: %s; %s; want %s; %s; from %s", fuel, ended(e), told(was), ended(want), told(hand), told(s))
		}
		traced := copied(s)
		if list := run.Trace(traced, fuel); !slices.Equal(list, places) || !same(traced, hand) {
			t.Fatalf("P1101: Trace of %d: %v; %s; want %v; %s; from %s", fuel, list[:min(99, len(list))], told(traced), places[:min(99, len(places))], told(hand), told(s))
		}
	}
	return was, want
}

// is answers an instruction.
func is(name string, rd, rs, rt int, imm int32) code.Inst {
	o, ok := op.Named(name)
	if !ok {
		panic(name)
	}
	return code.Inst{Op: o.Code, Rd: rd, Rs: rs, Rt: rt, Imm: imm}
}

// bytes answers the bytes of instructions, the lowest first.
func bytes(list ...code.Inst) []byte {
	var b []byte
	for _, i := range list {
		w, err := code.Encode(i)
		if err != nil {
			panic(code.Text(i) + ": " + err.Error())
		}
		b = append(b, byte(w), byte(w>>8), byte(w>>16), byte(w>>24))
	}
	return b
}

// boot answers a machine of 64 bytes that has list at 0.
func boot(list ...code.Inst) *step.State {
	s, err := run.Boot(bytes(list...), 64, 0)
	if err != nil {
		panic(err)
	}
	return s
}

// TestByHand tells whole runs, worked out by hand.
func TestByHand(t *testing.T) { // P1101
	nop, halt := is("nop", 0, 0, 0, 0), is("halt", 0, 0, 0, 0)
	for _, x := range []struct {
		list  []code.Inst
		fuel  int
		want  string
		trace []uint32
		pcc   uint32
		out   []uint32
	}{
		{[]code.Inst{halt}, 9, `1 steps, kind 1, code 0, ""`, []uint32{0}, 0, nil},
		{[]code.Inst{halt}, 1, `1 steps, kind 1, code 0, ""`, []uint32{0}, 0, nil},
		{[]code.Inst{halt}, 0, `0 steps, kind 0, code 0, ""`, nil, 0, nil},
		{[]code.Inst{halt}, -1, `0 steps, kind 0, code 0, ""`, nil, 0, nil},
		{[]code.Inst{nop, nop, halt}, 2, `2 steps, kind 0, code 0, ""`, []uint32{0, 4}, 8, nil},
		{[]code.Inst{nop, nop, halt}, 3, `3 steps, kind 1, code 0, ""`, []uint32{0, 4, 8}, 8, nil},
		{[]code.Inst{nop, nop, halt}, 4, `3 steps, kind 1, code 0, ""`, []uint32{0, 4, 8}, 8, nil},
		{[]code.Inst{nop, is("ecall", 0, 0, 0, -7), nop}, 9, `2 steps, kind 2, code -7, ""`, []uint32{0, 4}, 8, nil},
		{[]code.Inst{is("ecall", 0, 0, 0, 0)}, 9, `1 steps, kind 2, code 0, ""`, []uint32{0}, 4, nil},
		{[]code.Inst{nop, nop}, 2, `2 steps, kind 0, code 0, ""`, []uint32{0, 4}, 8, nil},
		{[]code.Inst{nop, nop}, 3, `2 steps, kind 0, code 0, "fetch 8: op 0: op"`, []uint32{0, 4, 8}, 8, nil},
		{nil, 9, `0 steps, kind 0, code 0, "fetch 0: op 0: op"`, []uint32{0}, 0, nil},
		{[]code.Inst{nop, is("in", 4, 0, 0, 0)}, 9, `1 steps, kind 0, code 0, "in 0: input"`, []uint32{0, 4}, 4, nil},
		{[]code.Inst{is("lw", 4, 1, 0, 64)}, 9, `0 steps, kind 0, code 0, "access 64: bound"`, []uint32{0}, 0, nil},
		{[]code.Inst{is("jalr", 0, 1, 0, 0)}, 9, `0 steps, kind 0, code 0, "jump 0: perm"`, []uint32{0}, 0, nil},
		{[]code.Inst{is("jal", 0, 0, 0, -1)}, 9, `1 steps, kind 0, code 0, "access 4294967292: bound"`, []uint32{0, last - 3}, last - 3, nil},
		{[]code.Inst{is("li", 4, 0, 0, 5), is("out", 4, 0, 0, 0), is("jal", 0, 0, 0, -1)}, 6, `6 steps, kind 0, code 0, ""`, []uint32{0, 4, 8, 4, 8, 4}, 8, []uint32{5, 5, 5}},
		{[]code.Inst{is("auipcc", 4, 0, 0, 0), is("out", 4, 0, 0, 0), is("sw", 4, 4, 0, 0)}, 6, `2 steps, kind 0, code 0, "access 0: perm"`, []uint32{0, 4, 8}, 8, []uint32{0}},
	} {
		s, e := check(t, boot(x.list...), x.fuel)
		if ended(e) != x.want || s.PCC.Addr != x.pcc || !slices.Equal(s.Out, x.out) {
			t.Errorf("%v, %d: %s; %s; want %s", x.list, x.fuel, ended(e), told(s), x.want)
		}
		if list := run.Trace(boot(x.list...), x.fuel); !slices.Equal(list, x.trace) {
			t.Errorf("%v, %d: Trace: %v; want %v", x.list, x.fuel, list, x.trace)
		}
	}
}

// TestFuel: below 0 none are done, above a million that many, whatever is left
// of a number that is cut.
func TestFuel(t *testing.T) { // P1101
	for _, x := range []struct{ fuel, steps int }{
		{math.MinInt, 0}, {math.MinInt64 + 1, 0}, {-1<<32 + 5, 0}, {-1 << 32, 0}, {-most, 0}, {-2, 0}, {-1, 0}, {0, 0}, {1, 1}, {2, 2}, {3, 3},
		{most - 1, most - 1}, {most, most}, {most + 1, most}, {2 * most, most}, {1 << 31, most}, {1<<32 - 1, most}, {1 << 32, most}, {1<<32 + 1, most}, {1 << 40, most}, {math.MaxInt, most},
	} {
		s := boot(is("addi", 4, 4, 0, 1), is("jal", 0, 0, 0, -1))
		traced := copied(s)
		e := run.Run(s, x.fuel)
		if !alike(e, run.End{Steps: x.steps}) || s.Regs.Get(4) != cap.Int(uint32(x.steps+1)/2) || s.PCC.Addr != uint32(x.steps%2*4) {
			t.Errorf("P1101: Run of %d: %s; %s", x.fuel, ended(e), told(s))
		}
		list := run.Trace(traced, x.fuel)
		if len(list) != x.steps || !same(traced, s) {
			t.Errorf("P1101: Trace of %d: %d of them; %s", x.fuel, len(list), told(traced))
		}
		for n, at := range list {
			if at != uint32(n%2*4) {
				t.Fatalf("P1101: Trace of %d: the one of number %d: %d", x.fuel, n, at)
			}
		}
	}
}

// TestLastOfMillion: ends that come just ahead of, with and behind the step of
// number a million.
func TestLastOfMillion(t *testing.T) { // P1101
	for _, x := range []struct {
		end  code.Inst
		want [3]string // where end is the step ahead of the last, the last, the one behind
	}{
		{is("halt", 0, 0, 0, 0), [3]string{`999999 steps, kind 1, code 0, ""`, `1000000 steps, kind 1, code 0, ""`, `1000000 steps, kind 0, code 0, ""`}},
		{is("ecall", 0, 0, 0, 3), [3]string{`999999 steps, kind 2, code 3, ""`, `1000000 steps, kind 2, code 3, ""`, `1000000 steps, kind 0, code 0, ""`}},
		{is("in", 4, 0, 0, 0), [3]string{`999998 steps, kind 0, code 0, "in 0: input"`, `999999 steps, kind 0, code 0, "in 0: input"`, `1000000 steps, kind 0, code 0, ""`}},
	} {
		for n, want := range x.want {
			// What comes ahead of end: in, a nop if it has to be, the loop.
			list := []code.Inst{is("in", 5, 0, 0, 0), is("nop", 0, 0, 0, 0), is("addi", 4, 4, 0, 1), is("bne", 4, 5, 0, -1), x.end}
			if n == 1 {
				list = slices.Delete(list, 1, 2)
			}
			s, _ := run.Boot(bytes(list...), 64, 0, uint32(most-3+n)/2)
			traced := copied(s)
			if e := run.Run(s, math.MaxInt); ended(e) != want {
				t.Errorf("P1101: %s: %s; want %s", code.Text(x.end), ended(e), want)
			}
			if list := run.Trace(traced, math.MaxInt); len(list) != most-1+min(n, 1) || !same(traced, s) {
				t.Errorf("P1101: %s: Trace: %d of them; %s", code.Text(x.end), len(list), told(traced))
			}
			check(t, s, math.MaxInt)
		}
	}
}

// TestGoesOn: a run goes on where the one ahead of it ended: behind a call, at
// a halt and at an error each time again.
func TestGoesOn(t *testing.T) { // P1101, P3, P5
	s := boot(is("ecall", 0, 0, 0, 9), is("nop", 0, 0, 0, 0), is("ecall", 0, 0, 0, -32768), is("lw", 2, 3, 0, 0))
	for _, want := range []string{`1 steps, kind 2, code 9, ""`, `2 steps, kind 2, code -32768, ""`, `0 steps, kind 0, code 0, "access 0: tag"`, `0 steps, kind 0, code 0, "access 0: tag"`} {
		behind, e := check(t, s, 99)
		if ended(e) != want {
			t.Errorf("P1101: %s; want %s", ended(e), want)
		}
		s = behind
	}
	s.Regs.Set(3, cap.Root(64))
	if _, e := check(t, s, 1); ended(e) != `1 steps, kind 0, code 0, ""` {
		t.Errorf("P1101: %s", ended(e))
	}
	s = boot(is("nop", 0, 0, 0, 0), is("halt", 0, 0, 0, 0))
	for _, want := range []string{`2 steps, kind 1, code 0, ""`, `1 steps, kind 1, code 0, ""`, `1 steps, kind 1, code 0, ""`} {
		behind, e := check(t, s, 99)
		if ended(e) != want || behind.PCC.Addr != 4 {
			t.Errorf("P1101: %s; want %s", ended(e), want)
		}
		s = behind
	}
}

// TestErrors: an error is step's, as it is.
func TestErrors(t *testing.T) { // P1101
	s := boot(is("nop", 0, 0, 0, 0), is("lw", 4, 1, 0, 61))
	e := run.Run(s, 99)
	var f *api.Fault
	if !errors.As(e.Err, &f) || *f != (api.Fault{Part: "access", At: 61, Err: api.ErrBound}) || !errors.Is(e.Err, api.ErrBound) {
		t.Errorf("P1101: %v", e.Err)
	}
	s = boot()
	s.Mem.Store(0, []byte{1, 0, 0, 65})
	e = run.Run(s, 99)
	if !errors.As(e.Err, &f) || f.Part != "fetch" || f.At != 0 || !errors.Is(e.Err, api.ErrForm) {
		t.Errorf("P1101: %v", e.Err)
	}
}

// TestPlaces: all that a PCC may lack ends a run at once, and changes nothing.
func TestPlaces(t *testing.T) { // P1101, P1, P5
	for _, kind := range []uint16{0, 1, 2, 1<<16 - 1} {
		for _, perm := range []uint16{api.X, api.All, api.All - api.X, 0} {
			for _, ends := range [][2]uint32{{0, 64}, {8, 12}, {12, 8}, {0, last}, {64, 64}} {
				for _, place := range []uint32{0, 4, 8, 9, 12, 60, 61, 64, last - 3, last} {
					for _, tag := range []bool{true, false} {
						s := boot(slices.Repeat([]code.Inst{is("nop", 0, 0, 0, 0)}, 16)...)
						s.PCC = cap.Cap{Tag: tag, Base: ends[0], Top: ends[1], Addr: place, Perm: perm, Type: kind}
						for _, fuel := range []int{-1, 0, 1, 2, 99} {
							check(t, s, fuel)
						}
					}
				}
			}
		}
	}
}

// TestOut: what was told ahead of a run stays there, and what it tells comes
// behind that; the room behind a list that is handed in stays as it was.
func TestOut(t *testing.T) { // P1101, P2
	for _, end := range []code.Inst{is("nop", 0, 0, 0, 0), is("halt", 0, 0, 0, 0), is("ecall", 0, 0, 0, 1), is("in", 0, 0, 0, 0)} {
		for fuel := range 6 {
			list := []code.Inst{is("li", 4, 0, 0, 7), is("out", 4, 0, 0, 0), is("nop", 0, 0, 0, 0), is("out", 0, 0, 0, 0), end}
			want := [][]uint32{{1, 2}, {1, 2}, {1, 2, 7}, {1, 2, 7}, {1, 2, 7, 0}, {1, 2, 7, 0}}[fuel]
			given := []uint32{1, 2, 77, 78, 79}
			one, other := boot(list...), boot(list...)
			one.Out, other.Out = given[:2], given[:2]
			run.Run(one, fuel)
			run.Trace(other, fuel)
			if !slices.Equal(one.Out, want) || !slices.Equal(other.Out, want) || !slices.Equal(given, []uint32{1, 2, 77, 78, 79}) {
				t.Errorf("P1101: %d: %v, %v; want %v; %v", fuel, one.Out, other.Out, want, given)
			}
			check(t, one, 3)
		}
	}
}

// TestOutApart: machines that have one list of what was told run on, each by
// itself, and what is told later does not change what was told.
func TestOutApart(t *testing.T) { // P1101, P2
	list := []code.Inst{is("out", 4, 0, 0, 0), is("jal", 0, 0, 0, -1)}
	one := boot(list...)
	run.Run(one, 7)
	other := copied(one)
	other.Out = one.Out
	was := one.Out
	one.Regs.Set(4, cap.Int(5))
	other.Regs.Set(4, cap.Int(6))
	run.Run(one, 4)
	run.Trace(other, 4)
	if !slices.Equal(was, []uint32{0, 0, 0, 0}) || !slices.Equal(one.Out, []uint32{0, 0, 0, 0, 5, 5}) || !slices.Equal(other.Out, []uint32{0, 0, 0, 0, 6, 6}) {
		t.Errorf("P1101: %v, %v, %v", was, one.Out, other.Out)
	}
}

// TestManyOut: a run that tells a great deal tells it in its order.
func TestManyOut(t *testing.T) { // P1101, P1
	s := boot(is("out", 4, 0, 0, 0), is("addi", 4, 4, 0, 3), is("jal", 0, 0, 0, -2))
	s.Out = []uint32{last}
	if e := run.Run(s, most); e.Steps != most || len(s.Out) != most/3+2 || s.Out[0] != last {
		t.Fatalf("P1101: %s; %s", ended(e), told(s))
	}
	for n, v := range s.Out[1:] {
		if v != uint32(3*n) {
			t.Fatalf("P1101: the one of number %d: %d", n, v)
		}
	}
}

// TestIn: what is read goes in its order; the list that was handed in stays.
func TestIn(t *testing.T) { // P1101, P2
	given := []uint32{5, last, 0, 77, 78}
	s := boot(is("in", 4, 0, 0, 0), is("out", 4, 0, 0, 0), is("jal", 0, 0, 0, -2))
	s.In = given[:3]
	e := run.Run(s, 99)
	if ended(e) != `9 steps, kind 0, code 0, "in 0: input"` || !slices.Equal(s.Out, given[:3]) || len(s.In) != 0 || !slices.Equal(given, []uint32{5, last, 0, 77, 78}) {
		t.Errorf("P1101: %s; %s; %v", ended(e), told(s), given)
	}
}

// TestTraceApart: each answer is memory of its own.
func TestTraceApart(t *testing.T) { // P1101, P2
	s := boot(is("nop", 0, 0, 0, 0), is("jal", 0, 0, 0, -1))
	one := run.Trace(s, 5)
	for i := range one {
		one[i] = 99
	}
	if other := run.Trace(s, 4); !slices.Equal(other, []uint32{4, 0, 4, 0}) || !slices.Equal(one, []uint32{99, 99, 99, 99, 99}) {
		t.Errorf("P1101: %v, %v", one, other)
	}
}

// fitted answers an instruction, without what its form has not.
func fitted(o op.Op, rd, rs, rt int, imm int32) code.Inst {
	i := code.Inst{Op: o.Code, Rd: rd, Rs: rs, Rt: rt, Imm: imm}
	if o.Form != op.R3 {
		i.Rt = 0
	}
	switch o.Form {
	case op.None, op.N:
		i.Rd, i.Rs = 0, 0
	case op.R1, op.U, op.J:
		i.Rs = 0
	}
	switch o.Form {
	case op.None, op.R1, op.R2, op.R3:
		i.Imm = 0
	}
	return i
}

// TestPrograms: instructions by chance, run with all kinds of fuel, in one go
// and in two.
func TestPrograms(t *testing.T) { // P1101, P3
	seed := uint32(11)
	next := func(n int) int {
		seed = seed*1664525 + 1013904223
		return int(seed>>8) % n
	}
	ops, kinds := op.All(), map[string]int{}
	for range 3000 {
		m, _ := mem.New(256)
		for a := 0; a < 256; a += 4 {
			m.Store(a, bytes(fitted(ops[next(len(ops))], next(16), 1+next(3), next(16), int32(next(24)-12))))
		}
		s := &step.State{Regs: regs.New(), PCC: cap.SetAddr(cap.Root(256), uint32(4*next(64))), Mem: m, In: make([]uint32, next(4)), Out: make([]uint32, next(3))}
		for i := range 16 {
			s.Regs.Set(i, cap.SetAddr(cap.Root(256), uint32(16*next(16))))
		}
		first, whole := next(12), next(40)
		part, _ := check(t, s, first)
		check(t, part, whole)
		_, e := check(t, s, first+whole)
		switch {
		case e.Err != nil:
			kinds["error"]++
		case e.Event.Kind == step.Halt:
			kinds["halt"]++
		case e.Event.Kind == step.Call:
			kinds["call"]++
		default:
			kinds["fuel"]++
		}
	}
	if len(kinds) != 4 || min(kinds["error"], kinds["halt"], kinds["call"], kinds["fuel"]) < 20 {
		t.Errorf("how they ended: %v", kinds)
	}
}
