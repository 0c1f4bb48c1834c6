package link

import (
	"errors"
	"slices"

	"hasp/api"
	"hasp/man"
	"hasp/obj"
)

// The most that an image has of what api has no limit for.
const (
	maxEntries = 64 // of a compartment
	maxInits   = 512
)

func (l *linker) checkManifest() error { return man.Check(l.m) }

func (l *linker) checkObjects() error {
	return each("object", len(l.objs), func(k int) error {
		o := l.objs[k]
		if err := obj.Check(o); err != nil {
			return err
		}
		return l.name(k)
	})
}

// name tells what is wrong with the k-th object's name.
func (l *linker) name(k int) api.Errno {
	name := l.objs[k].Name
	switch {
	case man.Index(l.m, name) < 0:
		return api.ErrName
	case l.find(name) < k:
		return api.ErrTwice
	}
	return api.OK
}

func (l *linker) checkComps() error {
	return each("comp", len(l.m.Comps), func(c int) error { return l.comp(c) })
}

// comp tells what is wrong with the c-th compartment's object.
func (l *linker) comp(c int) api.Errno {
	if l.find(l.m.Comps[c].Name) < 0 {
		return api.ErrName
	}
	o := l.object(c)
	switch {
	case len(o.Code) == 0:
		return api.ErrShort
	case len(exports(o)) > maxEntries:
		return api.ErrLong
	}
	return api.OK
}

func (l *linker) checkCount() error {
	n := 0
	for _, o := range l.objs {
		n += len(o.Rels)
	}
	if n > maxInits {
		return fault("rels", n, api.ErrLong)
	}
	return nil
}

func (l *linker) checkImports() error {
	return each("import", len(l.m.Imports), func(k int) error { return l.callee(l.m.Imports[k]) })
}

func (l *linker) checkStart() error { return fault("start", 0, l.callee(l.m.Start)) }

// callee tells what is wrong with what x is of.
func (l *linker) callee(x man.Import) api.Errno {
	if s, ok := obj.Find(l.object(man.Index(l.m, x.From)), x.Name); ok && s.Export {
		return api.OK
	}
	return api.ErrName
}

// checkRels wraps twice, as a Rel is counted within its compartment.
func (l *linker) checkRels() error {
	return each("comp", len(l.m.Comps), func(c int) error {
		rels := l.object(c).Rels
		return each("rel", len(rels), func(k int) error { return l.relocation(c, rels[k]) })
	})
}

// relocation tells what is wrong with r, which the c-th compartment asks for.
func (l *linker) relocation(c int, r obj.Rel) api.Errno {
	switch r.Kind {
	case obj.Import:
		if !slices.Contains(l.m.Imports, man.Import{Comp: l.m.Comps[c].Name, From: r.Comp, Name: r.Name}) {
			return api.ErrName
		}
	case obj.Share:
		if l.share(r.Name) < 0 {
			return api.ErrName
		}
		if l.grant(c, r.Name) < 0 {
			return api.ErrPerm
		}
	}
	return api.OK
}

// room tells what is wrong with the size of an image that wants so many bytes.
func room(size, wanted uint32) api.Errno {
	switch {
	case size < wanted || size > api.MaxMem:
		return api.ErrRange
	case size%api.Granule != 0:
		return api.ErrAlign
	}
	return api.OK
}

// each answers a Fault of the first one of n with which something is wrong.
func each(part string, n int, wrong func(k int) error) error {
	for k := range n {
		if err := fault(part, k, wrong(k)); err != nil {
			return err
		}
	}
	return nil
}

// fault wraps what is wrong, be it wrapped already or not. Of nothing it is no
// error at all: rules that tell but an Errno say so by OK.
func fault(part string, at int, wrong error) error {
	if wrong == nil || errors.Is(wrong, api.OK) {
		return nil
	}
	return &api.Fault{Part: part, At: at, Err: wrong}
}
