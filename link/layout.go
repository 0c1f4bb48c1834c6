package link

import (
	"strings"

	"hasp/api"
	"hasp/img"
	"hasp/man"
	"hasp/obj"
)

// place finds Spans for all, one behind the other, and refuses a size in which
// they have no room.
func (l *linker) place() error {
	next := uint32(api.Granule) // what is ahead of it belongs to no Span
	take := func(size uint32) img.Span {
		s := img.Span{At: next, Size: size}
		next += size
		return s
	}
	for c, x := range l.m.Comps {
		o := l.object(c)
		// What is handed in may be a piece of much more, which would be kept with it.
		p := img.Part{Name: strings.Clone(x.Name), Code: take(filled(o.Code)), Data: take(uint32(len(o.Data))), Stack: take(x.Stack)}
		for _, off := range exports(o) {
			p.Entries = append(p.Entries, p.Code.At+off)
		}
		l.image.Parts = append(l.image.Parts, p)
	}
	for _, s := range l.m.Shares {
		l.image.Shares = append(l.image.Shares, take(s.Size))
	}
	return fault("size", int(next), room(l.image.Size, next))
}

// filled answers how many bytes a Code of those has, whole granules alone.
func filled(code []byte) uint32 {
	return (uint32(len(code)) + api.Granule - 1) / api.Granule * api.Granule
}

// fill puts into the image what lies in its Spans, and where it begins.
func (l *linker) fill() {
	i := &l.image
	last := i.Parts[len(i.Parts)-1].Data
	i.Bytes = make([]byte, last.At+last.Size)
	for c, p := range i.Parts {
		o := l.object(c)
		copy(i.Bytes[p.Code.At:], o.Code)
		copy(i.Bytes[p.Data.At:], o.Data)
		for _, r := range o.Rels {
			i.Inits = append(i.Inits, l.initial(c, r))
		}
	}
	i.Start = man.Index(l.m, l.m.Start.From)
	_, i.Addr = l.symbol(i.Start, l.m.Start.Name)
}

// initial answers what becomes of r, which the c-th compartment asks for. An
// Import falls through to an Own: it is its callee's Sym as an Own is its own
// part's, as no Sym of the data is exported, and no Import has a Perm.
func (l *linker) initial(c int, r obj.Rel) img.Init {
	x := img.Init{Comp: c, At: l.image.Parts[c].Data.At + r.Off, Kind: r.Kind}
	owner := c
	switch r.Kind {
	case obj.Share:
		x.From = l.share(r.Name)
		x.Addr = l.image.Shares[x.From].At
		x.Perm = l.m.Grants[l.grant(c, r.Name)].Perm
	case obj.Import:
		owner = man.Index(l.m, r.Comp)
		x.From = owner
		fallthrough
	case obj.Own:
		x.Data, x.Addr = l.symbol(owner, r.Name)
		x.Perm = r.Perm
	}
	return x
}

// symbol answers whether the c-th compartment's Sym of that name is of the data,
// and where it lies in the image.
func (l *linker) symbol(c int, name string) (data bool, addr uint32) {
	s, _ := obj.Find(l.object(c), name)
	if s.Data {
		return true, l.image.Parts[c].Data.At + s.Off
	}
	return false, l.image.Parts[c].Code.At + s.Off
}
