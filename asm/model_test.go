package asm_test

import (
	"maps"
	"regexp"
	"slices"
	"strconv"
	"strings"

	"hasp/api"
	"hasp/expr"
	"hasp/lex"
	"hasp/obj"
	"hasp/op"
	"hasp/parse"
)

// The promise told another way: the operands of a line are a word of letters,
// which a pattern takes or not; a line has a list of rules, all asked, of which
// the first one that is broken is told; what lies in a section is a map.

// rule is what may not be, and what is told if it is so.
type rule struct {
	broken bool
	err    error
}

// first answers what is told of the first broken one.
func first(rules ...rule) error {
	for _, r := range rules {
		if r.broken {
			return r.err
		}
	}
	return nil
}

// shapes: which operands a directive may have; whether the data alone may; how
// many bytes each operand, and how many the whole, has.
var shapes = map[string]struct {
	operands    *regexp.Regexp
	data        bool
	each, whole int
}{
	"code":   {regexp.MustCompile(`^$`), false, 0, 0},
	"data":   {regexp.MustCompile(`^$`), false, 0, 0},
	"align":  {regexp.MustCompile(`^.$`), false, 0, 0},
	"space":  {regexp.MustCompile(`^.$`), false, 0, 0},
	"equ":    {regexp.MustCompile(`^[nr].$`), false, 0, 0},
	"export": {regexp.MustCompile(`^[nr]$`), false, 0, 0},
	"word":   {regexp.MustCompile(`^.+$`), true, 4, 0},
	"byte":   {regexp.MustCompile(`^.+$`), true, 1, 0},
	"text":   {regexp.MustCompile(`^t+$`), true, 0, 0},
	"cap":    {regexp.MustCompile(`^[nr].?$`), true, 0, 16},
	"import": {regexp.MustCompile(`^[nr]{2}$`), true, 0, 16},
	"share":  {regexp.MustCompile(`^[nr]$`), true, 0, 16},
}

// order is an op: what its bits begin with, and its operands: r a register, v a
// constant, p a place, m a constant and a register, w what set has.
type order struct {
	bits     uint32
	operands string
}

// orders answers the ops by name.
func orders() map[string]order {
	forms := map[int]string{op.None: "", op.R1: "r", op.R2: "rr", op.R3: "rrr", op.I: "rrv", op.U: "rv", op.B: "rrp", op.J: "rp", op.M: "rm", op.N: "v"}
	all := map[string]order{}
	for _, o := range op.All() {
		all[o.Name] = order{uint32(o.Code) << 24, forms[o.Form]}
	}
	all["jmp"] = order{all["jal"].bits, "p"}
	all["call"] = order{all["ecall"].bits + 1, ""}
	all["ret"] = order{all["ecall"].bits + 2, ""}
	all["lda"] = order{all["cinci"].bits + 3<<16, "rv"}
	all["set"] = order{0, "rw"}
	return all
}

// letters answers a letter for each operand.
func letters(args [][]lex.Token) string {
	s := ""
	for _, l := range args {
		switch _, is := parse.Reg(l); {
		case is:
			s += "r"
		case len(l) == 1 && l[0].Kind == lex.Name:
			s += "n"
		case len(l) == 1 && l[0].Kind == lex.Text:
			s += "t"
		default:
			s += "e"
		}
	}
	return s
}

// model is a text on its way to an object.
type model struct {
	section string
	ends    map[string]int
	bytes   map[string]map[int]byte
	numbers map[string]int64
	syms    map[string]obj.Sym
	rels    []obj.Rel
	orders  map[string]order
	later   []func() error
}

// wanted tells P1601's Assemble; what is told of an error is its text.
func wanted(name, text string) (obj.Object, string) {
	m := &model{section: "code", ends: map[string]int{}, numbers: map[string]int64{}, syms: map[string]obj.Sym{}, orders: orders()}
	m.bytes = map[string]map[int]byte{"code": {}, "data": {}}
	if len(text) > 65536 {
		return obj.Object{}, "line 0: long"
	}
	for i, s := range strings.Split(text, "\n") {
		if err := m.line(s); err != nil {
			return obj.Object{}, "line " + strconv.Itoa(i) + ": " + err.Error()
		}
	}
	for i, f := range m.later {
		if err := f(); err != nil {
			return obj.Object{}, "line " + strconv.Itoa(i) + ": " + err.Error()
		}
	}
	for m.ends["data"]%16 > 0 {
		m.ends["data"]++
	}
	o := obj.Object{Name: name, Code: m.all("code"), Data: m.all("data"), Rels: m.rels}
	for _, s := range slices.Sorted(maps.Keys(m.syms)) {
		o.Syms = append(o.Syms, m.syms[s])
	}
	if err := obj.Check(o); err != nil {
		return obj.Object{}, "object 0: " + err.Error()
	}
	return o, ""
}

// all answers the bytes of a section.
func (m *model) all(section string) []byte {
	b := make([]byte, m.ends[section])
	for at, v := range m.bytes[section] {
		b[at] = v
	}
	return b
}

// put keeps bytes for a place.
func (m *model) put(section string, at int, v uint64, n int) {
	for i := range n {
		m.bytes[section][at+i] = byte(v % 256)
		v /= 256
	}
}

// value tells a constant, and what is wrong with it.
func (m *model) value(l []lex.Token) (int64, error) {
	var list []expr.Value
	for s, n := range m.numbers {
		list = append(list, expr.Value{Name: s, N: n})
	}
	n, end, err := expr.Eval(l, 0, list)
	return n, first(rule{err != nil, err}, rule{end != len(l), api.ErrForm})
}

// within tells a constant of least to most.
func (m *model) within(l []lex.Token, least, most int64) (int64, error) {
	n, err := m.value(l)
	return n, first(rule{err != nil, err}, rule{n < least, api.ErrOver}, rule{n > most, api.ErrOver})
}

// label tells of a line's label.
func (m *model) label(s string, n int, section string) error {
	if s == "" {
		return nil
	}
	_, is := m.numbers[s]
	if err := first(rule{!obj.Name(s), api.ErrName}, rule{is, api.ErrTwice}); err != nil {
		return err
	}
	m.numbers[s] = int64(n)
	m.syms[s] = obj.Sym{Name: s, Data: section == "data", Off: uint32(n)}
	return nil
}

// line does the first pass's of a line, and keeps the second one's for later.
func (m *model) line(s string) error {
	l, err := parse.Parse(s)
	if err != nil {
		return err
	}
	aligns := l.Dot && l.Name == "align"
	if !aligns {
		if err := m.label(l.Label, m.ends[m.section], m.section); err != nil {
			return err
		}
	}
	m.later = append(m.later, func() error { return nil })
	switch {
	case l.Dot:
		err = m.directive(l, m.ends[m.section])
	case l.Name != "":
		err = m.op(l, m.ends[m.section])
	}
	if err != nil {
		return err
	}
	if aligns {
		return m.label(l.Label, m.ends[m.section], m.section)
	}
	return nil
}

// op tells of an op of the first pass.
func (m *model) op(l parse.Line, at int) error {
	o, is := m.orders[l.Name]
	size := 4
	if l.Name == "set" {
		size = 8
	}
	m.later[len(m.later)-1] = func() error { return m.encode(o, l.Args, at) }
	m.ends["code"] += size
	return first(
		rule{!is, api.ErrName},
		rule{m.section != "code", api.ErrKind},
		rule{at%4 != 0, api.ErrAlign},
		rule{len(l.Args) != len(o.operands), api.ErrForm},
		rule{at+size > 16384, api.ErrLong},
	)
}

// encode tells of an op of the second pass.
func (m *model) encode(o order, args [][]lex.Token, at int) error {
	w := uint64(o.bits)
	for i, c := range o.operands {
		arg := args[i]
		n, is := parse.Reg(arg)
		if c == 'm' {
			if arg, n, is = parse.Mem(arg); len(arg) == 0 {
				arg = []lex.Token{{Kind: lex.Num, Text: "0"}}
			}
		}
		if (c == 'r' || c == 'm') && !is {
			return api.ErrForm
		}
		if c == 'r' || c == 'm' {
			w |= uint64(n) << (20 - 4*i)
		}
		if c == 'r' {
			continue
		}
		if c == 'w' {
			return m.set(uint64(w), arg, at)
		}
		v, err := m.value(arg)
		if err != nil {
			return err
		}
		if c == 'p' {
			v -= int64(at)
			if v%4 != 0 {
				return api.ErrAlign
			}
			v /= 4
		}
		if v < -32768 || v > 32767 {
			v = max(min(v, 1<<31-1), -1<<31)
			return &api.Fault{Part: "imm", At: int(v), Err: api.ErrOver}
		}
		w |= uint64(v) % 65536
	}
	m.put("code", at, w, 4)
	return nil
}

// set puts the two instructions; w has its register.
func (m *model) set(w uint64, arg []lex.Token, at int) error {
	v, err := m.within(arg, -1<<31, 1<<32-1)
	if err != nil {
		return err
	}
	low, high := uint64(v)%65536, uint64(v)/65536%65536
	if low >= 32768 {
		high = 65535 - high // as xori changes all of the upper bits
	}
	m.put("code", at, w|uint64(m.orders["lui"].bits)|high, 4)
	m.put("code", at+4, w|w>>4|uint64(m.orders["xori"].bits)|low, 4)
	return nil
}

// directive tells of a directive of the first pass.
func (m *model) directive(l parse.Line, at int) error {
	s, is := shapes[l.Name]
	if err := first(
		rule{!is, api.ErrName},
		rule{s.data && m.section != "data", api.ErrKind},
		rule{is && !s.operands.MatchString(letters(l.Args)), api.ErrForm},
	); err != nil {
		return err
	}
	section, more := m.section, s.whole+s.each*len(l.Args)
	m.later[len(m.later)-1] = func() error { return m.fill(l, at) }
	switch l.Name {
	case "code", "data":
		m.section = l.Name
	case "equ":
		name := l.Args[0][0].Text
		n, err := m.value(l.Args[1])
		_, is := m.numbers[name]
		if err := first(rule{err != nil, err}, rule{!obj.Name(name), api.ErrName}, rule{is, api.ErrTwice}); err != nil {
			return err
		}
		m.numbers[name] = n
	case "align":
		n, err := m.value(l.Args[0])
		if err := first(rule{err != nil, err}, rule{!slices.Contains([]int64{1, 2, 4, 8, 16}, n), api.ErrOver}); err != nil {
			return err
		}
		for (at+more)%int(n) != 0 {
			more++
		}
	case "space":
		n, err := m.within(l.Args[0], 0, 16384)
		if err != nil {
			return err
		}
		more = int(n)
	case "text":
		for _, a := range l.Args {
			for _, c := range []byte(a[0].Text) {
				m.put("data", at+more, uint64(c), 1)
				more++
			}
		}
	}
	m.ends[section] += more
	return first(rule{m.ends[section] > 16384, api.ErrLong})
}

// fill tells of a directive of the second pass.
func (m *model) fill(l parse.Line, at int) error {
	switch l.Name {
	case "word":
		return m.list(l.Args, at, 4, -1<<31, 1<<32-1)
	case "byte":
		return m.list(l.Args, at, 1, -128, 255)
	case "export":
		s, is := m.syms[l.Args[0][0].Text]
		if err := first(rule{!is, api.ErrName}, rule{s.Export, api.ErrTwice}); err != nil {
			return err
		}
		s.Export = true
		m.syms[s.Name] = s
	case "cap":
		return m.own(l.Args, at)
	case "import", "share":
		names, bad := []string{"", l.Args[0][0].Text}, false
		if l.Name == "import" {
			names = []string{l.Args[0][0].Text, l.Args[1][0].Text}
			bad = !obj.Name(names[0])
		}
		kind := map[string]int{"import": 2, "share": 3}[l.Name]
		m.rels = append(m.rels, obj.Rel{Kind: kind, Off: uint32(at), Comp: names[0], Name: names[1]})
		return first(rule{at%16 != 0, api.ErrAlign}, rule{bad || !obj.Name(names[1]), api.ErrName})
	}
	return nil
}

// list puts constants of n bytes.
func (m *model) list(args [][]lex.Token, at, n int, least, most int64) error {
	for i, a := range args {
		v, err := m.within(a, least, most)
		if err != nil {
			return err
		}
		m.put("data", at+n*i, uint64(v), n)
	}
	return nil
}

// own tells of a capability of a label.
func (m *model) own(args [][]lex.Token, at int) error {
	s, is := m.syms[args[0][0].Text]
	perm, err := int64(api.R|api.X|api.LC), error(nil)
	if s.Data {
		perm = api.R | api.W | api.LC | api.SC
	}
	if len(args) == 2 {
		perm, err = m.within(args[1], 0, 65535)
	}
	m.rels = append(m.rels, obj.Rel{Kind: 1, Off: uint32(at), Name: s.Name, Perm: uint16(perm)})
	return first(rule{at%16 != 0, api.ErrAlign}, rule{!is, api.ErrName}, rule{err != nil, err})
}
