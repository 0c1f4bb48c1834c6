package asm

import (
	"math"

	"hasp/api"
	"hasp/lex"
	"hasp/obj"
)

// wordBytes is how many bytes a word of the data has.
const wordBytes = 4

// What a capability of a section permits if its line does not say it.
const (
	codePerm = api.R | api.X | api.LC
	dataPerm = api.R | api.W | api.LC | api.SC
)

// second puts what the lines say where the first pass made room for it.
func (p *program) second() error {
	for i, l := range p.lines {
		if err := p.fill(l); err != nil {
			return fault("line", i, err)
		}
	}
	return nil
}

// fill does the second pass's of a line.
func (p *program) fill(l placed) error {
	switch {
	case l.Dot:
		return p.fillData(l)
	case l.Name != "":
		return p.fillCode(l)
	}
	return nil
}

// fillData does the second pass's of a directive. Words fall through to bytes:
// but for which numbers there are, and how many bytes each has, they are alike.
func (p *program) fillData(l placed) error {
	each, least, most := 1, int64(math.MinInt8), int64(math.MaxUint8)
	switch l.Name {
	case "word":
		each, least, most = wordBytes, math.MinInt32, math.MaxUint32
		fallthrough
	case "byte":
		return p.numbers(l, each, least, most)
	case "text":
		at := l.at
		for _, a := range l.Args {
			at += copy(p.object.Data[at:], text(a))
		}
	case "cap":
		return p.own(l)
	case "import", "share":
		return told(p.foreign(l))
	case "export":
		return told(p.export(text(l.Args[0])))
	}
	return nil
}

// numbers puts the constants of l, which must be least to most, each in so many
// bytes.
func (p *program) numbers(l placed, each int, least, most int64) error {
	for i, a := range l.Args {
		n, err := p.within(a, least, most)
		if err != nil {
			return err
		}
		at := l.at + i*each
		putNumber(p.object.Data[at:at+each], uint32(n))
	}
	return nil
}

// own says that a capability of a Label lies at l.
func (p *program) own(l placed) error {
	m := p.names[text(l.Args[0])]
	switch {
	case l.at%api.Granule != 0:
		return api.ErrAlign
	case !m.label:
		return api.ErrName
	}
	perm, err := p.perm(l.Args[1:], m.sym.Data)
	if err != nil {
		return err
	}
	p.relocate(l, obj.Rel{Kind: obj.Own, Name: m.sym.Name, Perm: perm})
	return nil
}

// perm answers what the operand behind a Label permits, and without one what is
// fit for the Label's section.
func (p *program) perm(args [][]lex.Token, data bool) (uint16, error) {
	switch {
	case len(args) > 0:
		n, err := p.within(args[0], 0, math.MaxUint16)
		return uint16(n), err
	case data:
		return dataPerm, nil
	}
	return codePerm, nil
}

// foreign says that a capability of what another compartment exports, or of what
// is shared, lies at l. Imports fall through to shares: both end with a name.
func (p *program) foreign(l placed) api.Errno {
	if l.at%api.Granule != 0 {
		return api.ErrAlign
	}
	args, r := l.Args, obj.Rel{Kind: obj.Share}
	switch l.Name {
	case "import":
		r.Kind, r.Comp = obj.Import, text(args[0])
		if !obj.Name(r.Comp) {
			return api.ErrName
		}
		args = args[1:]
		fallthrough
	case "share":
		r.Name = text(args[0])
		if !obj.Name(r.Name) {
			return api.ErrName
		}
	}
	p.relocate(l, r)
	return api.OK
}

// relocate keeps r, which is of the place of l.
func (p *program) relocate(l placed, r obj.Rel) {
	r.Off = uint32(l.at)
	p.object.Rels = append(p.object.Rels, r)
}

// export says that a Label may be entered by others.
func (p *program) export(name string) api.Errno {
	m := p.names[name]
	switch {
	case !m.label:
		return api.ErrName
	case m.sym.Export:
		return api.ErrTwice
	}
	m.sym.Export = true
	p.names[name] = m
	return api.OK
}

// putNumber puts as much of n into b as goes there, the lowest byte first.
func putNumber(b []byte, n uint32) {
	for i := range b {
		b[i] = byte(n >> (8 * i))
	}
}
