package asm

import (
	"cmp"
	"slices"
	"strings"

	"hasp/api"
	"hasp/lex"
	"hasp/obj"
	"hasp/parse"
)

// first finds a place for each line. Sections have noughts from then on.
func (p *program) first() error {
	if len(p.text) > api.MaxText {
		return fault("line", 0, api.ErrLong)
	}
	for i, s := range strings.Split(p.text, "\n") {
		l, err := parse.Parse(s)
		if err == nil {
			err = p.place(l)
		}
		if err != nil {
			return fault("line", i, err)
		}
	}
	return nil
}

// place puts a line behind what its section has by now.
func (p *program) place(l parse.Line) error {
	p.lines = append(p.lines, placed{Line: l, at: len(*p.section())})
	if l.Dot && l.Name == "align" {
		return cmp.Or(p.command(l), p.label(l.Label))
	}
	return cmp.Or(p.label(l.Label), p.command(l))
}

// section answers the bytes that lines are put behind.
func (p *program) section() *[]byte {
	if p.inData {
		return &p.object.Data
	}
	return &p.object.Code
}

// label says that a name is the next place, if a line has one.
func (p *program) label(name string) error {
	if name == "" {
		return nil
	}
	at := len(*p.section())
	sym := obj.Sym{Name: name, Data: p.inData, Off: uint32(at)}
	return told(p.define(name, meaning{n: int64(at), label: true, sym: sym}))
}

// define says what a name has.
func (p *program) define(name string, m meaning) api.Errno {
	if !obj.Name(name) {
		return api.ErrName
	}
	if _, ok := p.names[name]; ok {
		return api.ErrTwice
	}
	p.names[name] = m
	return api.OK
}

// command does the first pass's of what a line has behind its label.
func (p *program) command(l parse.Line) error {
	switch {
	case l.Dot:
		return p.directive(l)
	case l.Name != "":
		return told(p.op(l))
	}
	return nil
}

// op makes room for the instructions of an op.
func (p *program) op(l parse.Line) api.Errno {
	n, ok := operands(l.Name)
	switch {
	case !ok:
		return api.ErrName
	case p.inData:
		return api.ErrKind
	case len(p.object.Code)%instruction != 0:
		return api.ErrAlign
	case len(l.Args) != n:
		return api.ErrForm
	}
	return p.grow(Size(l))
}

// directive makes room for what a directive has, and does what it says of the
// lines behind it.
func (p *program) directive(l parse.Line) error {
	if err := told(p.misplaced(l)); err != nil {
		return err
	}
	switch l.Name {
	case "code", "data":
		p.inData = l.Name == "data"
	case "equ":
		n, err := p.constant(l.Args[1])
		if err != nil {
			return err
		}
		return told(p.define(text(l.Args[0]), meaning{n: n}))
	}
	n, err := p.room(l)
	if err != nil {
		return err
	}
	return told(p.grow(n))
}

// misplaced tells what is wrong with a directive but for its constants. What the
// data alone may have falls through to what stands anywhere.
func (p *program) misplaced(l parse.Line) api.Errno {
	switch l.Name {
	case "word", "byte", "text", "cap", "import", "share":
		if !p.inData {
			return api.ErrKind
		}
		fallthrough
	case "code", "data", "align", "space", "equ", "export":
		if !formed(l.Name, l.Args) {
			return api.ErrForm
		}
		return api.OK
	}
	return api.ErrName
}

// formed tells whether a directive may have these operands. What is a constant
// is not asked yet: without it a name is left, which falls through to those that
// have one alone.
func formed(directive string, args [][]lex.Token) bool {
	switch directive {
	case "code", "data":
		return len(args) == 0
	case "align", "space":
		return len(args) == 1
	case "text":
		if !are(lex.Text, args) {
			return false
		}
		fallthrough
	case "word", "byte":
		return len(args) > 0
	case "import":
		return len(args) == 2 && are(lex.Name, args)
	case "equ":
		if len(args) != 2 {
			return false
		}
		fallthrough
	case "cap":
		if len(args) == 2 {
			args = args[:1]
		}
		fallthrough
	case "share", "export":
		return len(args) == 1 && are(lex.Name, args)
	}
	return false
}

// are tells whether each operand is one token of that kind.
func are(kind int, args [][]lex.Token) bool {
	return !slices.ContainsFunc(args, func(l []lex.Token) bool { return len(l) != 1 || l[0].Kind != kind })
}

// room answers how many bytes a directive has. Words fall through to bytes: but
// for how many each has they are counted alike.
func (p *program) room(l parse.Line) (int, error) {
	each := 1
	switch l.Name {
	case "align":
		return p.toMultiple(l.Args[0])
	case "space":
		n, err := p.within(l.Args[0], 0, api.MaxSec)
		return int(n), err
	case "word":
		each = wordBytes
		fallthrough
	case "byte":
		return each * len(l.Args), nil
	case "text":
		n := 0
		for _, a := range l.Args {
			n += len(text(a))
		}
		return n, nil
	case "cap", "import", "share":
		return api.Granule, nil
	}
	return 0, nil
}

// toMultiple answers how many bytes lack to a multiple of a constant that may be
// so asked for.
func (p *program) toMultiple(l []lex.Token) (int, error) {
	n, err := p.within(l, 1, api.Granule)
	switch {
	case err != nil:
		return 0, err
	case n&(n-1) != 0:
		return 0, api.ErrOver
	}
	return gap(len(*p.section()), int(n)), nil
}

// grow puts n noughts behind the section.
func (p *program) grow(n int) api.Errno {
	s := p.section()
	*s = append(*s, make([]byte, n)...)
	if len(*s) > api.MaxSec {
		return api.ErrLong
	}
	return api.OK
}

// text answers the text of an operand that is one token.
func text(l []lex.Token) string { return l[0].Text }
