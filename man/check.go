package man

import (
	"slices"

	"hasp/api"
	"hasp/obj"
)

// The most that may be of what api has no limit for.
const (
	maxImports = 64
	maxGrants  = 64
	maxSize    = 4096 // bytes of a stack, or of a share
)

// Check answers a Fault of the first thing that is wrong with m.
func Check(m Manifest) error {
	for _, check := range []func(Manifest) error{checkComps, checkImports, checkShares, checkGrants, checkStart} {
		if err := check(m); err != nil {
			return err
		}
	}
	return nil
}

func checkComps(m Manifest) error {
	if len(m.Comps) == 0 {
		return fault(compKind+"s", 0, api.ErrShort)
	}
	return list(compKind, len(m.Comps), api.MaxComps, func(i int) api.Errno {
		c := m.Comps[i]
		return room(c.Name, Index(m, c.Name) < i, c.Stack)
	})
}

func checkImports(m Manifest) error {
	return list(importKind, len(m.Imports), maxImports, func(i int) api.Errno { return call(m, i) })
}

func checkShares(m Manifest) error {
	return list(shareKind, len(m.Shares), api.MaxShare, func(i int) api.Errno {
		s := m.Shares[i]
		return room(s.Name, shareIndex(m, s.Name) < i, s.Size)
	})
}

func checkGrants(m Manifest) error {
	return list(grantKind, len(m.Grants), maxGrants, func(i int) api.Errno { return grant(m, i) })
}

func checkStart(m Manifest) error {
	switch {
	case !callable(m, m.Start):
		return fault(startKind, 0, api.ErrName)
	case m.Start.Comp != "":
		return fault(startKind, 0, api.ErrKind)
	}
	return nil
}

// list answers a Fault of a list that is too long, or of the first one in it
// with which something is wrong.
func list(kind string, n, most int, wrong func(i int) api.Errno) error {
	if n > most {
		return fault(kind+"s", n, api.ErrLong)
	}
	for i := range n {
		if of := wrong(i); of != api.OK {
			return fault(kind, i, of)
		}
	}
	return nil
}

// room tells what is wrong with what has a name of its own and bytes: with a
// compartment and its stack, with a share.
func room(name string, twice bool, size uint32) api.Errno {
	switch {
	case !obj.Name(name):
		return api.ErrName
	case twice:
		return api.ErrTwice
	case size%api.Granule != 0:
		return api.ErrAlign
	case size == 0 || size > maxSize:
		return api.ErrOver
	}
	return api.OK
}

// call tells what is wrong with m's i-th Import.
func call(m Manifest, i int) api.Errno {
	x := m.Imports[i]
	switch {
	case Index(m, x.Comp) < 0 || !callable(m, x):
		return api.ErrName
	case x.From == x.Comp:
		return api.ErrKind
	case slices.Index(m.Imports, x) < i:
		return api.ErrTwice
	}
	return api.OK
}

// callable tells whether what x is of may be: what From exports is not known
// here.
func callable(m Manifest, x Import) bool { return Index(m, x.From) >= 0 && obj.Name(x.Name) }

// grant tells what is wrong with m's i-th Grant.
func grant(m Manifest, i int) api.Errno {
	g := m.Grants[i]
	alike := func(x Grant) bool { return x.Comp == g.Comp && x.Share == g.Share }
	switch {
	case Index(m, g.Comp) < 0 || shareIndex(m, g.Share) < 0:
		return api.ErrName
	case permWord(g.Perm) == "":
		return api.ErrPerm
	case slices.IndexFunc(m.Grants, alike) < i:
		return api.ErrTwice
	}
	return api.OK
}

func fault(part string, at int, of api.Errno) error {
	return &api.Fault{Part: part, At: at, Err: of}
}
