package step_test

import (
	"errors"
	"slices"
	"strconv"
	"testing"

	"hasp/alu"
	"hasp/api"
	"hasp/cap"
	"hasp/code"
	"hasp/mem"
	"hasp/op"
	"hasp/regs"
	"hasp/step"
)

const (
	last = 1<<32 - 1
	size = 1024
	at   = 256
)

// copied answers a machine like s, made without Twin.
func copied(s *step.State) *step.State {
	w := &step.State{Regs: regs.New(), PCC: s.PCC, Mem: s.Mem.Twin()}
	for i, c := range s.Regs.All() {
		w.Regs.Set(i, c)
	}
	w.In = append([]uint32{}, s.In...)
	w.Out = append([]uint32{}, s.Out...)
	return w
}

func same(a, b *step.State) bool {
	return a.Regs.All() == b.Regs.All() && a.PCC == b.PCC && a.Mem.Same(b.Mem) && slices.Equal(a.In, b.In) && slices.Equal(a.Out, b.Out)
}

// wrapped tells v modulo 2^32 by its worth alone.
func wrapped(v int64) uint32 { return uint32((v%(1<<32) + 1<<32) % (1 << 32)) }

// refusal tells what n bytes at a are refused for: the rules from last to
// first, by numbers that do not wrap round.
func refusal(m *mem.Mem, c cap.Cap, a uint32, n int64, perms ...uint16) string {
	told := ""
	if int64(a)+n > int64(m.Size()) {
		told = "mem " + strconv.Itoa(int(a)) + ": range"
	}
	part := "access " + strconv.Itoa(int(a))
	if int64(a)%n != 0 {
		told = part + ": align"
	}
	if a < c.Base || int64(a)+n > int64(c.Top) {
		told = part + ": bound"
	}
	for _, p := range perms {
		if c.Perm&p == 0 {
			told = part + ": perm"
		}
	}
	if c.Type != 0 {
		told = part + ": seal"
	}
	if !c.Tag {
		told = part + ": tag"
	}
	return told
}

// number tells the n bytes at a, the lowest first.
func number(m *mem.Mem, a uint32, n int) int64 {
	b, err := m.Load(int(a), n)
	if err != nil {
		panic(err)
	}
	v := int64(0)
	for i := n - 1; i >= 0; i-- {
		v = v*256 + int64(b[i])
	}
	return v
}

// fetched tells P1001 of Fetch.
func fetched(s *step.State) (code.Inst, string) {
	if told := refusal(s.Mem, s.PCC, s.PCC.Addr, 4, api.X); told != "" {
		return code.Inst{}, told
	}
	i, err := code.Decode(uint32(number(s.Mem, s.PCC.Addr, 4)))
	if err != nil {
		return code.Inst{}, "fetch " + strconv.Itoa(int(s.PCC.Addr)) + ": " + err.Error()
	}
	return i, ""
}

// taken tells of each branch whether it is taken.
func taken(name string, a, b uint32) bool {
	switch name {
	case "beq":
		return a == b
	case "bne":
		return a != b
	case "blt":
		return int32(a) < int32(b)
	case "bge":
		return int32(a) >= int32(b)
	case "bltu":
		return a < b
	}
	return a >= b
}

// jump tells where jalr goes, or what it is refused for.
func jump(c cap.Cap, imm int32) (cap.Cap, string) {
	told := ""
	if c.Perm&api.X == 0 {
		told = "perm"
	}
	if c.Type != 0 && !(c.Type == 1 && imm == 0) {
		told = "seal"
	}
	if !c.Tag {
		told = "tag"
	}
	if told != "" {
		return cap.Cap{}, "jump " + strconv.Itoa(int(c.Addr)) + ": " + told
	}
	return cap.Cap{Tag: true, Base: c.Base, Top: c.Top, Addr: wrapped(int64(c.Addr) + int64(imm)), Perm: c.Perm}, ""
}

// model tells P1001 of Step: the machine behind it, and what it answers.
func model(s *step.State) (*step.State, step.Event, string) {
	i, told := fetched(s)
	if told != "" {
		return copied(s), step.Event{}, told
	}
	w, event := copied(s), step.Event{}
	o, _ := op.Coded(i.Op)
	here := int64(s.PCC.Addr)
	w.PCC.Addr = wrapped(here + 4)
	there := wrapped(here + 4*int64(i.Imm))
	rd := s.Regs.Get(i.Rd)
	switch o.Name {
	case "lb", "lbu", "lh", "lhu", "lw", "lc", "sb", "sh", "sw", "sc":
		told = moved(w, o.Name, i)
	case "beq", "bne", "blt", "bge", "bltu", "bgeu":
		if taken(o.Name, rd.Addr, s.Regs.Get(i.Rs).Addr) {
			w.PCC.Addr = there
		}
	case "jal":
		w.Regs.Set(i.Rd, link(s))
		w.PCC.Addr = there
	case "jalr":
		w.PCC, told = jump(s.Regs.Get(i.Rs), i.Imm)
		w.Regs.Set(i.Rd, link(s))
	case "auipcc":
		c := s.PCC
		c.Addr = there
		w.Regs.Set(i.Rd, c)
	case "in":
		if len(s.In) == 0 {
			told = "in 0: input"
			break
		}
		w.Regs.Set(i.Rd, cap.Cap{Addr: s.In[0]})
		w.In = w.In[1:]
	case "out":
		w.Out = append(w.Out, rd.Addr)
	case "halt":
		w.PCC, event.Kind = s.PCC, 1
	case "ecall":
		event = step.Event{Kind: 2, Code: i.Imm}
	case "nop":
	default:
		v, err := alu.Do(o.Name, s.Regs.Get(i.Rs), s.Regs.Get(i.Rt), i.Imm)
		if err != nil {
			panic(err)
		}
		w.Regs.Set(i.Rd, v)
	}
	if told != "" {
		return copied(s), step.Event{}, told
	}
	return w, event, ""
}

func link(s *step.State) cap.Cap {
	return cap.Cap{Tag: true, Base: s.PCC.Base, Top: s.PCC.Top, Addr: wrapped(int64(s.PCC.Addr) + 4), Perm: s.PCC.Perm, Type: 1}
}

// moved does what loads and stores do to w, and tells what they are refused for.
func moved(w *step.State, name string, i code.Inst) string {
	n, need := int64(16), []uint16{api.R}
	switch name[1] {
	case 'b':
		n = 1
	case 'h':
		n = 2
	case 'w':
		n = 4
	}
	rd, rs := w.Regs.Get(i.Rd), w.Regs.Get(i.Rs)
	if name[0] == 's' {
		need = []uint16{api.W}
	}
	if name == "sc" && rd.Tag {
		need = append(need, api.SC)
	}
	a := wrapped(int64(rs.Addr) + int64(i.Imm))
	if told := refusal(w.Mem, rs, a, n, need...); told != "" {
		return told
	}
	switch {
	case name == "lc":
		c, _ := w.Mem.LoadCap(int(a))
		c.Tag = c.Tag && rs.Perm&api.LC != 0
		w.Regs.Set(i.Rd, c)
	case name == "sc":
		w.Mem.StoreCap(int(a), rd)
	case name[0] == 'l':
		v := number(w.Mem, a, int(n))
		if half := int64(1) << (8*n - 1); len(name) == 2 && n < 4 && v >= half {
			v -= 2 * half
		}
		w.Regs.Set(i.Rd, cap.Cap{Addr: wrapped(v)})
	default:
		for k := range int(n) {
			w.Mem.Store(int(a)+k, []byte{byte(rd.Addr >> (8 * k) % 256)})
		}
	}
	return ""
}

// check steps s, and holds all that it tells and has behind it against the
// model, its twin against itself (P3), and P1002. It tells whether s went on.
func check(t *testing.T, s *step.State) bool {
	t.Helper()
	was, twin := copied(s), step.Twin(s)
	if !same(twin, was) {
		t.Fatalf("Twin: %s", told(s))
	}
	want, wantEvent, wantTold := model(was)
	wantInst, wantFetch := fetched(was)
	for range 2 {
		if i, err := step.Fetch(s); i != wantInst || text(err) != wantFetch || !same(s, was) {
			t.Fatalf("P1001: Fetch: %+v, %v; want %+v, %q; %s", i, err, wantInst, wantFetch, told(was))
		}
	}
	for _, m := range []*step.State{s, twin} {
		event, err := step.Step(m)
		if event != wantEvent || text(err) != wantTold {
			t.Fatalf("P1001: Step: %+v, %v; want %+v, %q; %s", event, err, wantEvent, wantTold, told(was))
		}
		if !same(m, want) {
			t.Fatalf("P1001: behind Step (%v): %s; want %s; from %s", err, told(m), told(want), told(was))
		}
	}
	if more := beyond(was, s); more != "" {
		t.Fatalf("P1002: %s; %s", more, told(was))
	}
	return wantTold == ""
}

func text(err error) string {
	if err == nil {
		return ""
	}
	return err.Error()
}

// told tells all of a machine but its bytes.
func told(s *step.State) string {
	i, _ := fetched(s)
	line := code.Text(i) + " at " + cap.Text(s.PCC)
	for n, c := range s.Regs.All() {
		if c != (cap.Cap{}) {
			line += "; c" + strconv.Itoa(n) + " " + cap.Text(c)
		}
	}
	for _, a := range s.Mem.Tags() {
		c, _ := s.Mem.LoadCap(a)
		line += "; " + strconv.Itoa(a) + " " + cap.Text(c)
	}
	for _, v := range s.In {
		line += " <" + strconv.Itoa(int(v))
	}
	for _, v := range s.Out {
		line += " >" + strconv.Itoa(int(v))
	}
	return line
}

// reach lists the capabilities of a machine that have Tags.
func reach(s *step.State) []cap.Cap {
	list := []cap.Cap{s.PCC}
	all := s.Regs.All()
	list = append(list, all[:]...)
	for _, a := range s.Mem.Tags() {
		c, _ := s.Mem.LoadCap(a)
		list = append(list, c)
	}
	return slices.DeleteFunc(list, func(c cap.Cap) bool { return !c.Tag })
}

// beyond tells a capability behind a step that was in none ahead of it.
func beyond(was, is *step.State) string {
	from := reach(was)
	for _, c := range reach(is) {
		in := func(b cap.Cap) bool { return b.Base <= c.Base && c.Top <= b.Top && c.Perm|b.Perm == b.Perm }
		if !slices.ContainsFunc(from, in) {
			return cap.Text(c)
		}
	}
	return ""
}

// inst answers an instruction, without what its form has not.
func inst(name string, rd, rs, rt int, imm int32) code.Inst {
	o, is := op.Named(name)
	if !is {
		panic(name)
	}
	i := code.Inst{Op: o.Code}
	switch o.Form {
	case op.R1:
		i.Rd = rd
	case op.R2:
		i.Rd, i.Rs = rd, rs
	case op.R3:
		i.Rd, i.Rs, i.Rt = rd, rs, rt
	case op.I, op.B, op.M:
		i.Rd, i.Rs, i.Imm = rd, rs, imm
	case op.U, op.J:
		i.Rd, i.Imm = rd, imm
	case op.N:
		i.Imm = imm
	}
	return i
}

func put(m *mem.Mem, a int, i code.Inst) {
	w, err := code.Encode(i)
	if err != nil {
		panic(err)
	}
	putWord(m, a, w)
}

func putWord(m *mem.Mem, a int, w uint32) {
	if err := m.Store(a, []byte{byte(w), byte(w >> 8), byte(w >> 16), byte(w >> 24)}); err != nil {
		panic(err)
	}
}

// machine answers one that stands at a place, with bytes and capabilities in
// its memory, all of which its PCC reaches.
func machine(place uint32) *step.State {
	m, err := mem.New(size)
	if err != nil {
		panic(err)
	}
	b := make([]byte, size)
	for a := range b {
		b[a] = byte(a*37 + 129)
	}
	m.Store(0, b)
	m.StoreCap(32, cap.Root(size))
	m.StoreCap(1008, cap.Cap{Tag: true, Base: 16, Top: 32, Addr: 20, Perm: api.R, Type: 9})
	return &step.State{Regs: regs.New(), PCC: cap.SetAddr(cap.Root(size), place), Mem: m, In: []uint32{7, 8}, Out: []uint32{1}}
}

// caps: what reaches all, parts and ends of the memory, what lacks one thing,
// what is sealed, and numbers.
func caps() []cap.Cap {
	root := cap.Root(size)
	list := []cap.Cap{root, cap.Root(4 * size), cap.Clear(root), {Tag: true, Base: 500, Top: 400, Addr: 32, Perm: api.All}}
	for _, a := range []uint32{32, 33, 34, 36, size - 16, size - 4, size - 1, size, last} {
		list = append(list, cap.Cap{Tag: true, Top: last, Addr: a, Perm: api.All}, cap.Cap{Tag: true, Base: 32, Top: 48, Addr: a, Perm: api.All}, cap.Int(a))
	}
	for _, perm := range []uint16{0, api.R, api.W, api.X, api.R | api.W, api.All &^ api.R, api.All &^ api.W, api.All &^ api.X, api.All &^ api.LC, api.All &^ api.SC, api.SE, api.UN, 1<<16 - 1, 1 << 15} {
		list = append(list, cap.Cap{Tag: true, Top: size, Addr: 32, Perm: perm})
	}
	for _, kind := range []uint16{api.Sentry, api.Entry, 9, 32, 1023, 1<<16 - 1} {
		list = append(list, cap.Cap{Tag: true, Top: size, Addr: 32, Perm: api.All, Type: kind}, cap.Cap{Top: size, Addr: 32, Perm: api.All, Type: kind}, cap.Cap{Tag: true, Top: size, Addr: 32, Perm: api.R, Type: kind})
	}
	return list
}

func imms() []int32 {
	return []int32{0, 1, -1, 2, 3, 4, -4, 8, 15, 16, -16, 17, -32, -33, 64, -64, -65, 191, 192, 976, 992, 1000, 32767, -32768}
}

// fields: registers of which some are the same, or none.
func fields() [][3]int {
	return [][3]int{{4, 5, 6}, {4, 4, 6}, {4, 5, 5}, {4, 5, 4}, {4, 4, 4}, {0, 5, 6}, {4, 0, 6}, {4, 5, 0}, {0, 0, 0}, {15, 1, 2}, {1, 15, 8}}
}

// TestEach: each op, with a third of all pairs in its registers, and with all
// constants.
func TestEach(t *testing.T) { // P1001, P1002, P3, P4, P5
	list, constants, choices := caps(), imms(), fields()
	done := map[string]int{}
	for n, o := range op.All() {
		for j, a := range list {
			for k, b := range list {
				if (n+j+k)%3 != 0 {
					continue
				}
				f := choices[(n+j+2*k)%len(choices)]
				if tried(t, o.Name, f, constants[(n+7*j+k)%len(constants)], a, b) {
					done[o.Name]++
				}
			}
			for k, imm := range constants {
				tried(t, o.Name, choices[k%len(choices)], imm, a, list[(j+n)%len(list)])
				tried(t, o.Name, choices[0], imm, a, a)
			}
		}
		if done[o.Name] == 0 {
			t.Errorf("%s: never done", o.Name)
		}
	}
}

// tried checks a step of an instruction with a in rs, b in rd and rt, as far as
// these are not the same register.
func tried(t *testing.T, name string, f [3]int, imm int32, a, b cap.Cap) bool {
	t.Helper()
	s := machine(at)
	s.Regs.Set(f[0], b)
	s.Regs.Set(f[2], b)
	s.Regs.Set(f[1], a)
	put(s.Mem, at, inst(name, f[0], f[1], f[2], imm))
	return check(t, s)
}

// TestPlaces: each op where the memory begins and ends, by a PCC that reaches
// all, that ends with it, and that has no more than X.
func TestPlaces(t *testing.T) { // P1001, P1002
	for _, o := range op.All() {
		for _, place := range []uint32{0, 4, 252, 1016, 1020} {
			for _, pcc := range []cap.Cap{cap.Root(size), {Tag: true, Base: place, Top: place + 4, Perm: api.X}, {Tag: true, Top: last, Perm: 1<<16 - 1}} {
				for _, imm := range imms() {
					s := machine(place)
					s.PCC = pcc
					s.PCC.Addr = place
					s.Regs.Set(4, cap.SetAddr(cap.Root(size), 40))
					s.Regs.Set(5, cap.SetAddr(cap.Root(size), 32))
					put(s.Mem, int(place), inst(o.Name, 4, 5, 4, imm))
					check(t, s)
				}
			}
		}
	}
}

// TestFetch: all that a PCC may lack, in pairs and more, and bits that are no
// instruction.
func TestFetch(t *testing.T) { // P1001, P4, P5, P6
	for _, word := range []uint32{0, 0x43000000, 0x43000001, 0x44000000, 0xFFFFFFFF, 0x01123000, 0x01123400, 0x3FF00000, 0x3F0F0000} {
		for _, place := range []uint32{0, 1, 2, 3, 4, 256, 258, 1016, 1020, 1021, 1022, 1024, 4096, 65532, 65536, 1 << 31, last - 3, last} {
			for _, ends := range [][2]uint32{{0, size}, {0, 4 * size}, {0, last}, {256, 260}, {256, 259}, {257, 1024}, {1020, 1024}, {1024, 1020}, {0, 0}} {
				for _, perm := range []uint16{api.All, api.X, api.R | api.X, api.All &^ api.X, 0, 1<<16 - 1} {
					for _, kind := range []uint16{0, 1, 2, 1<<16 - 1} {
						for _, tag := range []bool{true, false} {
							s := machine(0)
							s.PCC = cap.Cap{Tag: tag, Base: ends[0], Top: ends[1], Addr: place, Perm: perm, Type: kind}
							if place <= size-4 {
								putWord(s.Mem, int(place), word)
							}
							i, err := step.Fetch(s)
							if want, told := fetched(s); i != want || text(err) != told {
								t.Fatalf("P1001: Fetch of %#x by %s: %+v, %v; want %+v, %q", word, cap.Text(s.PCC), i, err, want, told)
							}
							if kind == 0 && tag {
								check(t, s)
							}
						}
					}
				}
			}
		}
	}
}

func TestFetchByHand(t *testing.T) { // P1001
	m, _ := mem.New(api.MaxMem)
	put(m, 65532, inst("lw", 5, 3, 0, -4))
	s := &step.State{Regs: regs.New(), PCC: cap.Cap{Tag: true, Top: last, Addr: 65532, Perm: api.X}, Mem: m}
	if i, err := step.Fetch(s); i != (code.Inst{Op: 48, Rd: 5, Rs: 3, Imm: -4}) || err != nil {
		t.Errorf("Fetch: %+v, %v", i, err)
	}
	for _, x := range []struct {
		pcc  cap.Cap
		word uint32
		want string
	}{
		{cap.Cap{}, 0, "access 0: tag"}, {cap.Cap{Type: 1, Addr: 2}, 0, "access 2: tag"}, {cap.Cap{Tag: true, Type: 1, Addr: 2}, 0, "access 2: seal"}, {cap.Cap{Tag: true, Perm: api.All &^ api.X, Addr: 2}, 0, "access 2: perm"},
		{cap.Cap{Tag: true, Perm: api.X, Addr: 2, Top: 5}, 0, "access 2: bound"}, {cap.Cap{Tag: true, Perm: api.X, Addr: 2, Top: 6}, 0, "access 2: align"}, {cap.Cap{Tag: true, Perm: api.X, Addr: 65536, Top: last}, 0, "mem 65536: range"},
		{cap.Cap{Tag: true, Perm: api.X, Addr: last - 3, Top: last}, 0, "access 4294967292: bound"}, {cap.Cap{Tag: true, Perm: api.X, Addr: last - 7, Top: last}, 0, "mem 4294967288: range"},
		{cap.Cap{Tag: true, Perm: api.X, Addr: 8, Top: 12}, 0, "fetch 8: op 0: op"}, {cap.Cap{Tag: true, Perm: api.X, Addr: 8, Top: 12}, 0xFF000001, "fetch 8: op 255: op"}, {cap.Cap{Tag: true, Perm: api.X, Addr: 8, Top: 12}, 0x43000100, "fetch 8: form 256: form"},
	} {
		s.PCC = x.pcc
		putWord(m, 8, x.word)
		was := copied(s)
		_, err := step.Fetch(s)
		event, err2 := step.Step(s)
		if text(err) != x.want || text(err2) != x.want || event != (step.Event{}) || !same(s, was) {
			t.Errorf("%s: %v, %v; want %s", cap.Text(x.pcc), err, err2, x.want)
		}
	}
}

// TestErrors: what is wrapped is found, the outermost Fault first.
func TestErrors(t *testing.T) { // P1001
	for _, x := range []struct {
		i     code.Inst
		part  string
		place int
		errno api.Errno
	}{
		{code.Inst{}, "fetch", at, api.ErrOp}, {inst("lw", 4, 5, 0, 2), "access", 34, api.ErrAlign}, {inst("lc", 4, 5, 0, 1), "access", 33, api.ErrAlign}, {inst("sw", 4, 6, 0, 2), "access", 2, api.ErrTag},
		{inst("lb", 4, 7, 0, 0), "mem", 2048, api.ErrRange}, {inst("sc", 5, 7, 0, 0), "mem", 2048, api.ErrRange}, {inst("jalr", 4, 6, 0, 4), "jump", 0, api.ErrTag}, {inst("jalr", 4, 8, 0, 0), "jump", 32, api.ErrPerm},
		{inst("jalr", 4, 9, 0, 4), "jump", 32, api.ErrSeal}, {inst("in", 4, 0, 0, 0), "in", 0, api.ErrInput},
	} {
		s := machine(at)
		s.In = nil
		s.Regs.Set(5, cap.SetAddr(cap.Root(size), 32))
		s.Regs.Set(7, cap.SetAddr(cap.Root(last), 2048))
		s.Regs.Set(8, cap.AndPerm(s.Regs.Get(5), api.R))
		s.Regs.Set(9, cap.Enter(s.Regs.Get(5)))
		putWord(s.Mem, at, 0)
		if x.i.Op != 0 {
			put(s.Mem, at, x.i)
		}
		_, err := step.Step(s)
		var f *api.Fault
		if !errors.As(err, &f) || f.Part != x.part || f.At != x.place || !errors.Is(err, x.errno) || err != error(f) {
			t.Errorf("%s: %v", code.Text(x.i), err)
		}
		if _, is := f.Err.(api.Errno); is == (x.part == "fetch") {
			t.Errorf("%s: %v: wraps %T", code.Text(x.i), err, f.Err)
		}
	}
}

// TestByHand tells steps in full, by numbers alone.
func TestByHand(t *testing.T) { // P1001
	root := cap.Root(size)
	for _, x := range []struct {
		i    code.Inst
		rd   string // behind it
		pcc  uint32
		want step.Event
	}{
		{inst("addi", 4, 5, 0, -33), "-[0x00000000,0x00000000) 0xffffffff p0 t0", 260, step.Event{}}, {inst("cbounds", 4, 5, 6, 0), "-[0x00000020,0x00000018) 0x00000020 p127 t0", 260, step.Event{}},
		{inst("cboundsi", 4, 5, 0, 8), "![0x00000020,0x00000028) 0x00000020 p127 t0", 260, step.Event{}}, {inst("sub", 4, 5, 6, 0), "-[0x00000000,0x00000000) 0x00000028 p0 t0", 260, step.Event{}},
		{inst("lb", 4, 5, 0, 32), cap.Text(cap.Int(0xFFFFFFC1)), 260, step.Event{}}, {inst("lbu", 4, 5, 0, 32), cap.Text(cap.Int(0xC1)), 260, step.Event{}}, {inst("lh", 4, 5, 0, 34), cap.Text(cap.Int(0x300B)), 260, step.Event{}},
		{inst("lh", 4, 5, 0, 32), cap.Text(cap.Int(0xFFFFE6C1)), 260, step.Event{}}, {inst("lhu", 4, 5, 0, 32), cap.Text(cap.Int(0xE6C1)), 260, step.Event{}}, {inst("lw", 4, 5, 0, 32), cap.Text(cap.Int(0x300BE6C1)), 260, step.Event{}},
		{inst("lc", 4, 5, 0, 0), cap.Text(root), 260, step.Event{}}, {inst("lc", 4, 5, 0, 976), "![0x00000010,0x00000020) 0x00000014 p1 t9", 260, step.Event{}},
		{inst("blt", 4, 5, 0, -64), cap.Text(cap.Int(7)), 0, step.Event{}}, {inst("blt", 5, 4, 0, -64), "", 260, step.Event{}}, {inst("bge", 5, 4, 0, -65), "", last - 3, step.Event{}}, {inst("blt", 6, 4, 0, 2), "", 264, step.Event{}},
		{inst("bltu", 6, 4, 0, 2), "", 260, step.Event{}}, {inst("bgeu", 6, 4, 0, 0), "", 256, step.Event{}}, {inst("bge", 6, 4, 0, 0), "", 260, step.Event{}}, {inst("bne", 4, 4, 0, 5), "", 260, step.Event{}}, {inst("beq", 4, 4, 0, 32767), "", 256 + 131068, step.Event{}},
		{inst("jal", 4, 0, 0, -32768), "![0x00000000,0x00000400) 0x00000104 p127 t1", 1<<32 - 131072 + 256, step.Event{}}, {inst("jal", 4, 0, 0, 0), "![0x00000000,0x00000400) 0x00000104 p127 t1", 256, step.Event{}},
		{inst("jalr", 4, 5, 0, 3), "![0x00000000,0x00000400) 0x00000104 p127 t1", 35, step.Event{}}, {inst("jalr", 5, 5, 0, -33), "", last, step.Event{}},
		{inst("auipcc", 4, 0, 0, -65), "![0x00000000,0x00000400) 0xfffffffc p127 t0", 260, step.Event{}}, {inst("in", 4, 0, 0, 0), cap.Text(cap.Int(7)), 260, step.Event{}}, {inst("halt", 0, 0, 0, 0), "", 256, step.Event{Kind: step.Halt}},
		{inst("ecall", 0, 0, 0, -32768), "", 260, step.Event{Kind: step.Call, Code: -32768}}, {inst("ecall", 0, 0, 0, 0), "", 260, step.Event{Kind: step.Call}}, {inst("nop", 0, 0, 0, 0), "", 260, step.Event{Kind: step.Next}},
	} {
		s := machine(at)
		put(s.Mem, at, x.i)
		s.Regs.Set(4, cap.Int(7))
		s.Regs.Set(5, cap.SetAddr(root, 32))
		s.Regs.Set(6, cap.Int(1<<32-8))
		event, err := step.Step(s)
		if event != x.want || err != nil || s.PCC != cap.SetAddr(root, x.pcc) || x.rd != "" && cap.Text(s.Regs.Get(4)) != x.rd {
			t.Errorf("%s: %+v, %v, %s, %s", code.Text(x.i), event, err, cap.Text(s.PCC), cap.Text(s.Regs.Get(4)))
		}
	}
	if step.Next != 0 || step.Halt != 1 || step.Call != 2 {
		t.Error("the kinds of Events")
	}
}

// TestStoresByHand tells what each store leaves of a capability's granule.
func TestStoresByHand(t *testing.T) { // P1001
	for _, x := range []struct {
		name string
		imm  int32
		want string
		tag  bool
	}{
		{"sb", 3, "\x00\x00\x00\x44", false}, {"sh", 2, "\x00\x00\x44\x33", false}, {"sw", 0, "\x44\x33\x22\x11", false}, {"sc", 0, "\x01\x00\x00\x00", true}, {"sb", 16, "\x00\x00\x00\x00", true},
	} {
		s := machine(at)
		put(s.Mem, at, inst(x.name, 4, 5, 0, x.imm))
		s.Regs.Set(4, cap.Cap{Tag: true, Base: 1, Top: 2, Addr: 0x11223344})
		s.Regs.Set(5, cap.SetAddr(cap.Root(size), 32))
		if _, err := step.Step(s); err != nil {
			t.Errorf("%s: %v", x.name, err)
		}
		b, _ := s.Mem.Load(32, 4)
		if string(b) != x.want || s.Mem.Tag(32) != x.tag || s.Regs.Get(4).Addr != 0x11223344 {
			t.Errorf("%s: %x, %v", x.name, b, s.Mem.Tag(32))
		}
	}
}

// TestOwnCode: an instruction that is stored is done, also the next one, and
// one that stores over itself has been done all the same.
func TestOwnCode(t *testing.T) { // P1001
	s := machine(at)
	w, _ := code.Encode(inst("halt", 0, 0, 0, 0))
	s.Regs.Set(4, cap.Int(w))
	s.Regs.Set(5, cap.SetAddr(cap.Root(size), at))
	put(s.Mem, at, inst("sw", 4, 5, 0, 0))
	put(s.Mem, at+4, inst("jal", 0, 0, 0, -1))
	for _, want := range []step.Event{{}, {}, {Kind: step.Halt}, {Kind: step.Halt}} {
		was := copied(s)
		if event, err := step.Step(s); event != want || err != nil {
			t.Errorf("%+v, %v; want %+v; %s", event, err, want, told(was))
		}
	}
}

// TestJumps: all that a target may lack, in pairs and more.
func TestJumps(t *testing.T) { // P1001, P6
	for _, kind := range []uint16{0, 1, 2, 3, 9, 1023, 1024, 1<<16 - 1} {
		for _, perm := range []uint16{api.X, api.All, api.R | api.W, 0, 1<<16 - 1, 1<<16 - 1 - api.X} {
			for _, ends := range [][2]uint32{{0, size}, {64, 72}, {64, 64}, {72, 64}, {0, last}, {65, last}, {0, 0}} {
				for _, place := range []uint32{0, 63, 64, 68, 72, 73, last} {
					for _, imm := range imms() {
						for _, tag := range []bool{true, false} {
							c := cap.Cap{Tag: tag, Base: ends[0], Top: ends[1], Addr: place, Perm: perm, Type: kind}
							s := machine(at)
							s.Regs.Set(5, c)
							rd := 4 + int(place+uint32(imm))%2
							put(s.Mem, at, inst("jalr", rd, 5, 0, imm))
							pcc, want := jump(c, imm)
							_, err := step.Step(s)
							if text(err) != want || want == "" && (s.PCC != pcc || s.Regs.Get(rd) != cap.Enter(cap.SetAddr(cap.Root(size), at+4))) || want != "" && (s.PCC.Addr != at || s.Regs.Get(5) != c || s.Regs.Get(4) != (cap.Cap{})) {
								t.Fatalf("jalr c%d, c5, %d to %s: %v, %s; want %q", rd, imm, cap.Text(c), err, cap.Text(s.PCC), want)
							}
						}
					}
				}
			}
		}
	}
}

// TestInput: what is taken goes, to register 0 too, until nothing is left; the
// list that was handed in stays as it was.
func TestInput(t *testing.T) { // P1001, P2
	for _, rd := range []int{0, 4} {
		s := machine(at)
		given := []uint32{5, last, 0, 77, 78}
		s.In = given[:3]
		put(s.Mem, at, inst("in", rd, 0, 0, 0))
		put(s.Mem, at+4, inst("jal", 0, 0, 0, -1))
		for n, want := range []uint32{5, last, 0} {
			if !check(t, s) || rd != 0 && s.Regs.Get(rd) != cap.Int(want) || len(s.In) != 2-n {
				t.Errorf("in: %s", told(s))
			}
			check(t, s)
		}
		for range 2 {
			if check(t, s) || s.PCC.Addr != at {
				t.Errorf("in of nothing: %s", told(s))
			}
		}
		if !slices.Equal(given, []uint32{5, last, 0, 77, 78}) {
			t.Errorf("what was handed in: %v", given)
		}
	}
}

// TestOutput: nothing is put into the room behind a list that is handed in, nor
// behind one that another machine has as well.
func TestOutput(t *testing.T) { // P1001, P2
	given := []uint32{1, 2, 77, 78}
	one, other := machine(at), machine(at)
	one.Out, other.Out = given[:2], given[:2]
	for n, s := range []*step.State{one, other} {
		put(s.Mem, at, inst("out", 4, 0, 0, 0))
		s.Regs.Set(4, cap.Cap{Tag: true, Top: 8, Addr: uint32(n) + last, Perm: 1})
		check(t, s)
	}
	if !slices.Equal(given, []uint32{1, 2, 77, 78}) || !slices.Equal(one.Out, []uint32{1, 2, last}) || !slices.Equal(other.Out, []uint32{1, 2, 0}) {
		t.Errorf("out: %v, %v, %v", given, one.Out, other.Out)
	}
	put(one.Mem, at+4, inst("out", 4, 0, 0, 0))
	was := *one
	was.Mem, was.Regs = one.Mem.Twin(), one.Regs.Twin()
	was.Regs.Set(4, cap.Int(3))
	step.Step(one)
	step.Step(&was)
	if !slices.Equal(one.Out, []uint32{1, 2, last, last}) || !slices.Equal(was.Out, []uint32{1, 2, last, 3}) {
		t.Errorf("out: %v, %v", one.Out, was.Out)
	}
}

// TestTwin: what is done to one, the other has not; their lists share nothing,
// the room behind them neither.
func TestTwin(t *testing.T) { // P1001, P2, P7
	for _, lists := range [][2][]uint32{{nil, nil}, {{}, {}}, {{1}, {2, 3}}, {make([]uint32, 2, 9), make([]uint32, 3, 9)}, {make([]uint32, 0, 9), make([]uint32, 0, 9)}} {
		s := machine(at)
		s.In, s.Out = lists[0], lists[1]
		s.PCC.Type = 7
		for i := range 16 {
			s.Regs.Set(i, cap.Root(uint32(i)))
		}
		was := copied(s)
		first, second := step.Twin(s), step.Twin(s)
		spoil(first)
		if !same(s, was) || !same(second, was) {
			t.Fatalf("Twin: %s, %s; want %s", told(s), told(second), told(was))
		}
		spoil(s)
		if !same(second, was) {
			t.Fatalf("Twin: %s; want %s", told(second), told(was))
		}
		for i := range whole(second.In) {
			whole(second.In)[i] = 97
		}
		if !slices.Equal(second.Out, was.Out) {
			t.Errorf("Twin: its lists share memory")
		}
	}
}

// spoil changes all of a machine, the room behind its lists too.
func spoil(s *step.State) {
	s.PCC.Addr++
	for i := range 16 {
		s.Regs.Set(i, cap.Int(99))
	}
	s.Mem.Zero(0, size)
	for _, list := range [][]uint32{whole(s.In), whole(s.Out)} {
		for i := range list {
			list[i] = 99
		}
	}
	s.In, s.Out = append(s.In, 98), append(s.Out, 98)
}

// TestManyOut: what was told stays, in its order, however much it is.
func TestManyOut(t *testing.T) { // P1001
	s := machine(at)
	s.Out = nil
	put(s.Mem, at, inst("out", 4, 0, 0, 0))
	put(s.Mem, at+4, inst("addi", 4, 4, 0, 3))
	put(s.Mem, at+8, inst("jal", 0, 0, 0, -2))
	for range 3 * 3000 {
		if _, err := step.Step(s); err != nil {
			t.Fatal(err)
		}
	}
	for n, v := range s.Out {
		if v != uint32(3*n) {
			t.Fatalf("out: the one of number %d: %d", n, v)
		}
	}
	if len(s.Out) != 3000 {
		t.Errorf("out: %d", len(s.Out))
	}
}

// TestPrograms: instructions by chance over registers that hold parts of the
// memory, keys and sealed ones, step after step.
func TestPrograms(t *testing.T) { // P1001, P1002, P3, P5
	seed := uint32(29)
	next := func(n int) int {
		seed = seed*1664525 + 1013904223
		return int(seed>>8) % n
	}
	list, ops, constants := caps(), op.All(), imms()
	done, refused := map[string]int{}, 0
	for range 1500 {
		s := machine(uint32(4 * next(size/4)))
		s.PCC.Top = uint32(size - next(2)*next(size))
		for i := range 16 {
			s.Regs.Set(i, list[next(len(list))])
		}
		s.Regs.Set(1, cap.SetAddr(cap.Root(size), uint32(16*next(size/16))))
		s.Regs.Set(2, cap.SetAddr(cap.Root(size), uint32(next(12))))
		s.Regs.Set(3, cap.Int(uint32(next(40))))
		for a := 0; a < size; a += 4 {
			if o := ops[next(len(ops))]; next(9) != 0 {
				put(s.Mem, a, inst(o.Name, next(16), next(4)*next(5), next(16), constants[next(len(constants))]))
			}
		}
		for range 60 {
			i, _ := fetched(s)
			if check(t, s) {
				o, _ := op.Coded(i.Op)
				done[o.Name]++
				continue
			}
			refused++
			s.PCC = cap.Cap{Tag: true, Top: size, Addr: uint32(4 * next(size/4)), Perm: api.R | api.X | api.LC}
		}
	}
	if len(done) != len(ops) || refused < 100 {
		t.Errorf("%d ops were done, %d steps refused", len(done), refused)
	}
}

// TestUnseal: what a key opens reaches again what it did when it was sealed, no
// more.
func TestUnseal(t *testing.T) { // P1002
	s := machine(at)
	part := cap.Bounds(cap.SetAddr(cap.Root(size), 64), 16)
	key := cap.SetAddr(cap.Root(size), 9)
	s.Regs.Set(4, part)
	s.Regs.Set(5, key)
	put(s.Mem, at, inst("cseal", 6, 4, 5, 0))
	put(s.Mem, at+4, inst("mv", 4, 0, 0, 0))
	put(s.Mem, at+8, inst("jalr", 0, 6, 0, 0))
	put(s.Mem, at+12, inst("cunseal", 6, 6, 5, 0))
	for n, want := range []bool{true, true, false} {
		if check(t, s) != want {
			t.Errorf("step %d: %s", n, told(s))
		}
	}
	s.PCC.Addr += 4
	if !check(t, s) || s.Regs.Get(6) != part {
		t.Errorf("cunseal: %s", told(s))
	}
}

// TestAuthority: programs by chance that have code, data and a key for a few
// types: whatever they do, no more is there than what they had.
func TestAuthority(t *testing.T) { // P1002, P1001
	seed := uint32(10)
	next := func(n int) int {
		seed = seed*1664525 + 1013904223
		return int(seed>>8) % n
	}
	ops := op.All()
	kept := 0
	for range 600 {
		s := machine(uint32(4 * next(64)))
		s.Mem.Zero(0, size)
		for a := 0; a < 256; a += 4 {
			put(s.Mem, a, inst(ops[next(len(ops))].Name, next(8), 1+next(7), next(8), int32(next(40)-20)*int32(1+15*next(2))))
		}
		s.PCC = cap.Cap{Tag: true, Top: 256, Addr: s.PCC.Addr, Perm: api.X | api.LC}
		had := []cap.Cap{s.PCC, {Tag: true, Base: 512, Top: 768, Addr: 640, Perm: api.R | api.W | api.LC | api.SC}, {Tag: true, Base: 800, Top: 816, Addr: 804, Perm: api.SE | api.UN}}
		for i := range 8 {
			s.Regs.Set(i, had[next(3)])
		}
		s.Regs.Set(3, cap.Int(uint32(next(900))))
		for range 80 {
			if !check(t, s) {
				s.PCC.Addr = uint32(4 * next(64))
			}
			for _, c := range reach(s) {
				if !slices.ContainsFunc(had, func(b cap.Cap) bool { return b.Base <= c.Base && c.Top <= b.Top && c.Perm|b.Perm == b.Perm }) {
					t.Fatalf("P1002: %s; %s", cap.Text(c), told(s))
				}
			}
		}
		kept += len(s.Mem.Tags())
	}
	if kept == 0 {
		t.Error("no capability was ever stored")
	}
}
