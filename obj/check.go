package obj

import (
	"errors"

	"hasp/api"
)

// instruction is how many bytes one has.
const instruction = 4

// What a Rel may permit of a Sym, by the Sym's section.
const (
	codePerm = api.R | api.X | api.LC
	dataPerm = api.R | api.W | api.LC | api.SC
)

// Check answers a Fault of the first thing that is wrong with o. Its parts are
// asked one behind the other, as each relies on those ahead of it.
func Check(o Object) error {
	var f *api.Fault
	for _, check := range []func(Object) error{checkName, checkCode, checkData, checkSyms, checkRels} {
		if errors.As(check(o), &f) {
			return f
		}
	}
	return nil
}

func checkName(o Object) error {
	if Name(o.Name) {
		return nil
	}
	return fault("name", 0, api.ErrName)
}

func checkCode(o Object) error { return fault("code", len(o.Code), section(o.Code, instruction)) }

func checkData(o Object) error { return fault("data", len(o.Data), section(o.Data, api.Granule)) }

func checkSyms(o Object) error {
	return list("syms", "sym", len(o.Syms), func(i int) api.Errno { return symbol(o, i) })
}

func checkRels(o Object) error {
	return list("rels", "rel", len(o.Rels), func(i int) api.Errno { return relocation(o, i) })
}

// section tells what is wrong with a section that is made of pieces of so many
// bytes.
func section(b []byte, piece int) api.Errno {
	switch {
	case len(b) > api.MaxSec:
		return api.ErrLong
	case len(b)%piece != 0:
		return api.ErrAlign
	}
	return api.OK
}

// list answers a Fault of a list that is too long, or of the first one in it
// with which something is wrong.
func list(all, one string, n int, wrong func(i int) api.Errno) error {
	if n > api.MaxSyms {
		return fault(all, n, api.ErrLong)
	}
	for i := range n {
		if err := fault(one, i, wrong(i)); err != nil {
			return err
		}
	}
	return nil
}

// symbol tells what is wrong with o's i-th Sym.
func symbol(o Object, i int) api.Errno {
	s, end := o.Syms[i], uint32(len(o.Code))
	if s.Data {
		end = uint32(len(o.Data))
	}
	switch {
	case !Name(s.Name):
		return api.ErrName
	case i > 0 && s.Name <= o.Syms[i-1].Name:
		return api.ErrTwice
	case s.Off > end:
		return api.ErrRange
	case !s.Export:
		return api.OK
	case s.Data:
		return api.ErrKind
	case s.Off%instruction != 0:
		return api.ErrAlign
	case s.Off == end:
		return api.ErrRange
	}
	return api.OK
}

// relocation tells what is wrong with o's i-th Rel.
func relocation(o Object, i int) api.Errno {
	r := o.Rels[i]
	switch {
	case r.Kind < Own || r.Kind > Share:
		return api.ErrKind
	case i > 0 && r.Off <= o.Rels[i-1].Off:
		return api.ErrTwice
	case r.Off%api.Granule != 0:
		return api.ErrAlign
	// In 64 bits, as in 32 it may wrap round.
	case uint64(r.Off)+api.Granule > uint64(len(o.Data)):
		return api.ErrRange
	}
	return target(o, r)
}

// target tells what is wrong with what r is of. An Import falls through to a
// Share: but for Comp they are asked alike.
func target(o Object, r Rel) api.Errno {
	switch r.Kind {
	case Own:
		return own(o, r)
	case Import:
		if !Name(r.Comp) {
			return api.ErrName
		}
		r.Comp = ""
		fallthrough
	case Share:
		if !Name(r.Name) {
			return api.ErrName
		}
		if r.Comp != "" || r.Perm != 0 {
			return api.ErrKind
		}
	}
	return api.OK
}

// own tells what is wrong with what an Own is of.
func own(o Object, r Rel) api.Errno {
	s, ok := Find(o, r.Name)
	most := uint16(codePerm)
	if s.Data {
		most = dataPerm
	}
	switch {
	case !ok:
		return api.ErrName
	case r.Comp != "":
		return api.ErrKind
	case r.Perm&^most != 0:
		return api.ErrPerm
	}
	return api.OK
}

// fault wraps what is wrong; of OK it is no error at all. So whoever asks tells
// but an Errno.
func fault(part string, at int, wrong api.Errno) error {
	f := &api.Fault{Part: part, At: at, Err: wrong}
	if errors.Is(f, api.OK) {
		return nil
	}
	return f
}
