package img

import (
	"errors"
	"slices"

	"hasp/api"
	"hasp/obj"
)

// instruction is how many bytes one has.
const instruction = 4

// The most that may be of what api has no limit for.
const (
	maxEntries = 64 // of a part
	maxInits   = 512
)

// What an Init may permit: an Own by its section, as obj has it, and a Share.
const (
	codePerm  = api.R | api.X | api.LC
	dataPerm  = api.R | api.W | api.LC | api.SC
	sharePerm = api.R | api.W
)

// Check answers a Fault of the first thing that is wrong with i. Its parts are
// asked one behind the other, as each relies on those ahead of it.
func Check(i Image) error {
	var f *api.Fault
	for _, check := range []func(Image) error{
		checkSize, checkBytes, checkCounts, checkSpans, checkParts, checkEntries, checkInits, checkStart,
	} {
		if errors.As(check(i), &f) {
			return f
		}
	}
	return nil
}

func checkSize(i Image) error {
	wrong := api.OK
	switch {
	case i.Size < api.Granule || i.Size > api.MaxMem:
		wrong = api.ErrRange
	case i.Size%api.Granule != 0:
		wrong = api.ErrAlign
	}
	return fault("size", int(i.Size), wrong)
}

func checkBytes(i Image) error {
	if len(i.Bytes) > int(i.Size) {
		return fault("bytes", len(i.Bytes), api.ErrRange)
	}
	return nil
}

func checkCounts(i Image) error {
	switch {
	case len(i.Parts) == 0:
		return fault("parts", 0, api.ErrShort)
	case len(i.Parts) > api.MaxComps:
		return fault("parts", len(i.Parts), api.ErrLong)
	case len(i.Shares) > api.MaxShare:
		return fault("shares", len(i.Shares), api.ErrLong)
	}
	return nil
}

// checkSpans asks all Spans in one loop, as those of the parts and the shares
// must lie apart.
func checkSpans(i Image) error {
	var all []Span
	for _, p := range i.Parts {
		all = append(all, p.Code, p.Data, p.Stack)
	}
	all = append(all, i.Shares...)
	// What is ahead of all other memory belongs to no Span.
	room := Span{At: api.Granule, Size: i.Size - api.Granule}
	return each("span", len(all), func(k int) api.Errno { return span(all[k], all[:k], room) })
}

func checkParts(i Image) error {
	return each("part", len(i.Parts), func(k int) api.Errno { return part(i, k) })
}

// checkEntries counts the Entries of all parts in one row.
func checkEntries(i Image) error {
	ahead := 0
	for _, p := range i.Parts {
		for k := range p.Entries {
			if err := fault("entry", ahead+k, entry(p, k)); err != nil {
				return err
			}
		}
		ahead += len(p.Entries)
	}
	return nil
}

func checkInits(i Image) error {
	if len(i.Inits) > maxInits {
		return fault("inits", len(i.Inits), api.ErrLong)
	}
	return each("init", len(i.Inits), func(k int) api.Errno { return initial(i, k) })
}

func checkStart(i Image) error { return fault("start", i.Start, callable(i, i.Start, i.Addr)) }

// each answers a Fault of the first one of n with which something is wrong.
func each(kind string, n int, wrong func(k int) api.Errno) error {
	for k := range n {
		if err := fault(kind, k, wrong(k)); err != nil {
			return err
		}
	}
	return nil
}

// span tells what is wrong with s, which must lie in room, and on none of those
// ahead.
func span(s Span, ahead []Span, room Span) api.Errno {
	switch {
	case s.At%api.Granule != 0 || s.Size%api.Granule != 0:
		return api.ErrAlign
	case !holds(room, s.At, s.Size):
		return api.ErrRange
	case slices.ContainsFunc(ahead, func(a Span) bool { return meet(a, s) }):
		return api.ErrTwice
	}
	return api.OK
}

// end answers the place behind s. It is told in 64 bits, as in 32 it may wrap
// round.
func end(s Span) uint64 { return uint64(s.At) + uint64(s.Size) }

// holds tells whether the n bytes at that place lie in s.
func holds(s Span, at, n uint32) bool { return at >= s.At && end(Span{At: at, Size: n}) <= end(s) }

// meet tells whether there is a byte that lies in both.
func meet(a, b Span) bool { return uint64(max(a.At, b.At)) < min(end(a), end(b)) }

// part tells what is wrong with i's k-th part, but for its Spans and Entries.
func part(i Image, k int) api.Errno {
	p := i.Parts[k]
	switch {
	case !obj.Name(p.Name):
		return api.ErrName
	case slices.ContainsFunc(i.Parts[:k], func(a Part) bool { return a.Name == p.Name }):
		return api.ErrTwice
	case p.Code.Size == 0:
		return api.ErrShort
	case len(p.Entries) > maxEntries:
		return api.ErrLong
	}
	return api.OK
}

// entry tells what is wrong with p's k-th Entry.
func entry(p Part, k int) api.Errno {
	at := p.Entries[k]
	switch {
	case at%instruction != 0:
		return api.ErrAlign
	case !holds(p.Code, at, instruction):
		return api.ErrRange
	case k > 0 && at <= p.Entries[k-1]:
		return api.ErrTwice
	}
	return api.OK
}

// initial tells what is wrong with i's k-th Init.
func initial(i Image, k int) api.Errno {
	x := i.Inits[k]
	switch {
	case !among(x.Comp, len(i.Parts)):
		return api.ErrRange
	case x.At%api.Granule != 0:
		return api.ErrAlign
	case !holds(i.Parts[x.Comp].Data, x.At, api.Granule):
		return api.ErrRange
	case k > 0 && x.At <= i.Inits[k-1].At:
		return api.ErrTwice
	}
	return target(i, x)
}

// target tells what is wrong with what x is of. An Import falls through to a
// Share: neither is of the Data.
func target(i Image, x Init) api.Errno {
	switch x.Kind {
	case obj.Own:
		return own(i.Parts[x.Comp], x)
	case obj.Import:
		if x.Perm != 0 {
			return api.ErrKind
		}
		fallthrough
	case obj.Share:
		if x.Data {
			return api.ErrKind
		}
		return beyond(i, x)
	}
	return api.ErrKind
}

// own tells what is wrong with what an Own of the part p is of.
func own(p Part, x Init) api.Errno {
	section, most := p.Code, uint16(codePerm)
	if x.Data {
		section, most = p.Data, dataPerm
	}
	switch {
	case x.From != 0:
		return api.ErrKind
	// A name may be of the end of its section.
	case !holds(section, x.Addr, 0):
		return api.ErrRange
	case x.Perm&^most != 0:
		return api.ErrPerm
	}
	return api.OK
}

// beyond tells what is wrong with where x leads to, out of its own part.
func beyond(i Image, x Init) api.Errno {
	if x.Kind == obj.Share {
		return shared(i, x)
	}
	wrong := callable(i, x.From, x.Addr)
	if wrong == api.OK && x.From == x.Comp {
		return api.ErrKind
	}
	return wrong
}

// callable tells what is wrong with a part and a place of it that is called.
func callable(i Image, from int, addr uint32) api.Errno {
	switch {
	case !among(from, len(i.Parts)):
		return api.ErrRange
	case !slices.Contains(i.Parts[from].Entries, addr):
		return api.ErrName
	}
	return api.OK
}

// shared tells what is wrong with what a Share is of.
func shared(i Image, x Init) api.Errno {
	switch {
	case !among(x.From, len(i.Shares)) || x.Addr != i.Shares[x.From].At:
		return api.ErrRange
	case x.Perm == 0 || x.Perm&^sharePerm != 0:
		return api.ErrPerm
	}
	return api.OK
}

// among tells whether there is a k-th one of n.
func among(k, n int) bool { return k >= 0 && k < n }

// fault wraps what is wrong; of OK it is no error at all. So whoever asks tells
// but an Errno.
func fault(kind string, at int, wrong api.Errno) error {
	f := &api.Fault{Part: kind, At: at, Err: wrong}
	if errors.Is(f, api.OK) {
		return nil
	}
	return f
}
