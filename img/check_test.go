package img_test

import (
	"math"
	"regexp"
	"slices"
	"strconv"
	"strings"
	"testing"

	"hasp/api"
	"hasp/img"
	"hasp/obj"
)

// aName is obj.Name told another way.
var aName = regexp.MustCompile(`^[A-Za-z_][A-Za-z_0-9]{0,15}$`)

// rules gathers all that is wrong with an image, in order, each rule asked
// whatever the others say.
type rules struct {
	i   img.Image
	all []api.Fault
}

func (r *rules) ask(part string, at int, of api.Errno, is bool) {
	if is {
		r.all = append(r.all, api.Fault{Part: part, At: at, Err: of})
	}
}

// wrongs tells P1801's Check another way.
func wrongs(i img.Image) []api.Fault {
	r := &rules{i: i}
	size := int64(i.Size)
	r.ask("size", int(size), api.ErrRange, size <= 15 || size >= 65537)
	r.ask("size", int(size), api.ErrAlign, size&15 != 0)
	r.ask("bytes", len(i.Bytes), api.ErrRange, int64(len(i.Bytes)) > size)
	r.ask("parts", len(i.Parts), api.ErrShort, len(i.Parts) < 1)
	r.ask("parts", len(i.Parts), api.ErrLong, len(i.Parts) >= 9)
	r.ask("shares", len(i.Shares), api.ErrLong, len(i.Shares) >= 9)
	if len(r.all) > 0 {
		return r.all // the first one is known, and what follows may be a great many
	}
	r.spans()
	r.parts()
	r.entries()
	r.ask("inits", len(i.Inits), api.ErrLong, len(i.Inits) >= 513)
	for k := range i.Inits[:min(len(i.Inits), 513)] {
		r.init(k)
	}
	r.ask("start", i.Start, api.ErrRange, i.Start < 0 || i.Start >= len(i.Parts))
	r.ask("start", i.Start, api.ErrName, !r.isEntry(i.Start, i.Addr))
	return r.all
}

// spans marks the granules of each Span, and finds those that are marked.
func (r *rules) spans() {
	var marked [4096]bool
	for k := range 3*len(r.i.Parts) + len(r.i.Shares) {
		s := *spanOf(&r.i, k)
		at, size := int64(s.At), int64(s.Size)
		r.ask("span", k, api.ErrAlign, at&15 != 0 || size&15 != 0)
		r.ask("span", k, api.ErrRange, at <= 15 || at+size > int64(r.i.Size))
		twice := false
		for g := at / 16; g < min(at+size, 65536)/16; g++ {
			twice = twice || marked[g]
			marked[g] = true
		}
		r.ask("span", k, api.ErrTwice, twice)
	}
}

func (r *rules) parts() {
	names := map[string]int{}
	for k, p := range r.i.Parts {
		names[p.Name]++
		r.ask("part", k, api.ErrName, !aName.MatchString(p.Name))
		r.ask("part", k, api.ErrTwice, names[p.Name] > 1)
		r.ask("part", k, api.ErrShort, p.Code.Size < 1)
		r.ask("part", k, api.ErrLong, len(p.Entries) >= 65)
	}
}

func (r *rules) entries() {
	which := 0
	for _, p := range r.i.Parts {
		before := int64(-1)
		for _, e := range p.Entries {
			at := int64(e)
			r.ask("entry", which, api.ErrAlign, at&3 != 0)
			r.ask("entry", which, api.ErrRange, at < int64(p.Code.At) || at >= int64(p.Code.At)+int64(p.Code.Size))
			r.ask("entry", which, api.ErrTwice, at <= before)
			before = at
			which++
		}
	}
}

func (r *rules) init(k int) {
	x := r.i.Inits[k]
	at := int64(x.At)
	ask := func(of api.Errno, is bool) { r.ask("init", k, of, is) }
	p := img.Part{}
	if x.Comp >= 0 && x.Comp < len(r.i.Parts) {
		p = r.i.Parts[x.Comp]
	} else {
		ask(api.ErrRange, true)
	}
	ask(api.ErrAlign, at&15 != 0)
	ask(api.ErrRange, at < int64(p.Data.At) || at+15 >= int64(p.Data.At)+int64(p.Data.Size))
	ask(api.ErrTwice, k > 0 && int64(r.i.Inits[max(k, 1)-1].At) >= at)
	ask(api.ErrKind, x.Kind != 1 && x.Kind != 2 && x.Kind != 3)
	switch x.Kind {
	case 1:
		s := map[bool]img.Span{false: p.Code, true: p.Data}[x.Data]
		ask(api.ErrKind, x.From != 0)
		ask(api.ErrRange, int64(x.Addr) < int64(s.At) || int64(x.Addr) > int64(s.At)+int64(s.Size))
		ask(api.ErrPerm, beyond(x.Perm, map[bool][]uint16{false: {1, 4, 8}, true: {1, 2, 8, 16}}[x.Data]))
	case 2:
		ask(api.ErrKind, x.Data)
		ask(api.ErrKind, x.Perm > 0)
		ask(api.ErrRange, x.From < 0 || x.From >= len(r.i.Parts))
		ask(api.ErrName, !r.isEntry(x.From, x.Addr))
		ask(api.ErrKind, x.From == x.Comp)
	case 3:
		ask(api.ErrKind, x.Data)
		isShare := x.From >= 0 && x.From < len(r.i.Shares)
		ask(api.ErrRange, !isShare || r.i.Shares[x.From].At != x.Addr)
		ask(api.ErrPerm, x.Perm != 1 && x.Perm != 2 && x.Perm != 3)
	}
}

// isEntry tells whether a part has that Entry, false of no part.
func (r *rules) isEntry(part int, addr uint32) bool {
	for k, p := range r.i.Parts {
		for _, e := range p.Entries {
			if k == part && e == addr {
				return true
			}
		}
	}
	return false
}

// beyond tells whether perm has what it may not have.
func beyond(perm uint16, may []uint16) bool {
	left := int(perm)
	for _, one := range may {
		if perm/one%2 == 1 {
			left -= int(one)
		}
	}
	return left != 0
}

// agrees holds Check and Encode of i against the promises, twice, and answers
// the Fault that there is.
func agrees(t *testing.T, i img.Image) api.Fault {
	t.Helper()
	want := api.Fault{}
	if all := wrongs(i); len(all) > 0 {
		want = all[0]
	}
	for range 2 {
		if err := img.Check(i); !same(err, want) {
			t.Fatalf("P1801: Check: %v; want %v of %s", err, &want, told(i))
		}
		b, err := img.Encode(i)
		if !same(err, want) || err != nil && len(b) != 0 || err == nil && string(b) != encoded(i) {
			t.Fatalf("P1801: Encode: %v; want %v of %s", err, &want, told(i))
		}
	}
	return want
}

// a change makes an image another one.
type change struct {
	do   func(i *img.Image)
	part string
	at   int
	of   error
}

// faulty answers changes of some(), each with the Fault that is behind it.
func faulty() []change {
	return slices.Concat(faultySizes(), faultySpans(), faultyParts(), faultyEntries(), faultyInits(), faultyOwns(), faultyCalls(), faultyShares(), faultyStarts())
}

func faultySizes() []change {
	var all []change
	for _, n := range []uint32{0, 1, 2, 8, 14, 15, 65537, 65544, 65552, 1 << 17, 1<<17 + 1, 1 << 31, 1<<31 + 1024, 1<<32 - 16, math.MaxUint32} {
		all = append(all, change{func(i *img.Image) { i.Size = n }, "size", int(n), api.ErrRange})
	}
	for _, n := range []uint32{17, 18, 20, 24, 31, 33, 1016, 1023, 1025, 1028, 1032, 1039, 65521, 65535} {
		all = append(all, change{func(i *img.Image) { i.Size = n }, "size", int(n), api.ErrAlign})
	}
	for _, n := range []int{1025, 1026, 1040, 2048, 65536, 65537, 1 << 17} {
		all = append(all, change{func(i *img.Image) { i.Bytes = make([]byte, n) }, "bytes", n, api.ErrRange})
	}
	all = append(all, change{func(i *img.Image) { i.Size, i.Bytes = 16, make([]byte, 17) }, "bytes", 17, api.ErrRange},
		change{func(i *img.Image) { i.Parts = nil }, "parts", 0, api.ErrShort},
		change{func(i *img.Image) { i.Parts = []img.Part{} }, "parts", 0, api.ErrShort},
		change{func(i *img.Image) { *i = img.Image{Size: 16} }, "parts", 0, api.ErrShort},
		change{func(i *img.Image) { *i = img.Image{} }, "size", 0, api.ErrRange})
	for _, n := range []int{9, 10, 64, 65, 300} {
		all = append(all, change{func(i *img.Image) { i.Parts = make([]img.Part, n) }, "parts", n, api.ErrLong},
			change{func(i *img.Image) { i.Shares = make([]img.Span, n) }, "shares", n, api.ErrLong},
			change{func(i *img.Image) { i.Shares = slices.Repeat([]img.Span{{At: 512, Size: 0}}, n) }, "shares", n, api.ErrLong})
	}
	return all
}

func faultySpans() []change {
	var all []change
	span := func(k int, part func(s *img.Span), of error) {
		all = append(all, change{func(i *img.Image) { part(spanOf(i, k)) }, "span", k, of})
	}
	for k := range 12 {
		for _, n := range []uint32{1, 2, 4, 8, 15, 17} {
			span(k, func(s *img.Span) { s.At += n }, api.ErrAlign)
			span(k, func(s *img.Span) { s.Size += n }, api.ErrAlign)
			span(k, func(s *img.Span) { s.At = n }, api.ErrAlign)
			span(k, func(s *img.Span) { s.At -= n }, api.ErrAlign)
		}
		span(k, func(s *img.Span) { s.At = math.MaxUint32 }, api.ErrAlign)
		span(k, func(s *img.Span) { s.Size = math.MaxUint32 }, api.ErrAlign)
		span(k, func(s *img.Span) { s.At, s.Size = s.At+8, s.Size-8 }, api.ErrAlign)
		span(k, func(s *img.Span) { s.At, s.Size = s.At-8, s.Size+8 }, api.ErrAlign)
		span(k, func(s *img.Span) { s.At = 0 }, api.ErrRange)
		span(k, func(s *img.Span) { *s = img.Span{} }, api.ErrRange)
		span(k, func(s *img.Span) { s.At = 1040 }, api.ErrRange)
		span(k, func(s *img.Span) { s.At = 1040 - s.Size }, api.ErrRange)
		span(k, func(s *img.Span) { s.Size = 1040 - s.At }, api.ErrRange)
		span(k, func(s *img.Span) { s.Size = -s.At }, api.ErrRange)
		if k != 6 { // that one begins at 16
			span(k, func(s *img.Span) { s.Size = 16 - s.At }, api.ErrRange)
		}
		span(k, func(s *img.Span) { s.Size = 1<<32 - 16 }, api.ErrRange)
		span(k, func(s *img.Span) { s.Size = 1 << 31 }, api.ErrRange)
		span(k, func(s *img.Span) { *s = img.Span{At: 1 << 31, Size: 1 << 31} }, api.ErrRange)
		span(k, func(s *img.Span) { *s = img.Span{At: 1<<32 - 16, Size: 16} }, api.ErrRange)
		span(k, func(s *img.Span) { *s = img.Span{At: 1<<32 - 16, Size: 32} }, api.ErrRange)
		span(k, func(s *img.Span) { *s = img.Span{At: 1 << 31} }, api.ErrRange)
		span(k, func(s *img.Span) { *s = img.Span{At: 65552} }, api.ErrRange)
		if k == 0 {
			continue
		}
		for _, s := range []img.Span{{At: 64, Size: 16}, {At: 80, Size: 16}, {At: 96, Size: 16}, {At: 64, Size: 48}, {At: 48, Size: 32}, {At: 48, Size: 64 + 16}, {At: 80, Size: 64}, {At: 96, Size: 928}, {At: 16, Size: 1008}, {At: 64, Size: 960}} {
			span(k, func(x *img.Span) { *x = s }, api.ErrTwice)
		}
	}
	for _, ahead := range [][2]int{{1, 0}, {2, 1}, {3, 1}, {3, 2}, {5, 3}, {6, 0}, {7, 5}, {8, 7}, {9, 8 - 1}, {10, 6}, {11, 10}, {11, 3}} {
		all = append(all, change{func(i *img.Image) { *spanOf(i, ahead[0]) = *spanOf(i, ahead[1]) }, "span", ahead[0], api.ErrTwice})
	}
	span(1, func(s *img.Span) { s.At -= 16 }, api.ErrTwice)
	span(2, func(s *img.Span) { s.At -= 16 }, api.ErrTwice)
	span(3, func(s *img.Span) { s.At -= 16 }, api.ErrTwice)
	span(4, func(s *img.Span) { s.Size += 16 }, api.ErrTwice)
	span(5, func(s *img.Span) { s.At -= 16 }, api.ErrTwice)
	span(5, func(s *img.Span) { s.At = 32; s.Size = 48 }, api.ErrTwice)
	span(7, func(s *img.Span) { s.Size += 16 }, api.ErrTwice)
	span(11, func(s *img.Span) { s.At = 336 }, api.ErrTwice)
	all = append(all, change{func(i *img.Image) { i.Size = 1008 }, "span", 8, api.ErrRange},
		change{func(i *img.Image) { i.Size = 16 }, "span", 0, api.ErrRange},
		change{func(i *img.Image) { i.Size, i.Parts[2].Stack.At = 1008, 1008 }, "span", 11, api.ErrRange},
		change{func(i *img.Image) { i.Shares = slices.Repeat([]img.Span{{At: 512, Size: 16}}, 8) }, "span", 10, api.ErrTwice},
		change{func(i *img.Image) { i.Parts = make([]img.Part, 8) }, "span", 0, api.ErrRange},
		change{func(i *img.Image) { i.Shares = make([]img.Span, 8) }, "span", 9, api.ErrRange})
	return all
}

// noNames answers what is no obj.Name.
func noNames() []string {
	return []string{"", "9", "0a", "a.b", "a b", " a", "a ", "-", "a\n", "a\x00", "\u00e9", "a\xff", "abcdefghijklmnopq", "_234567890abcDEFg", strings.Repeat("a", 255), strings.Repeat("a", 256), strings.Repeat("a", 300)}
}

func faultyParts() []change {
	var all []change
	part := func(k int, do func(p *img.Part), of error) {
		all = append(all, change{func(i *img.Image) { do(&i.Parts[k]) }, "part", k, of})
	}
	for _, s := range noNames() {
		part(0, func(p *img.Part) { p.Name = s }, api.ErrName)
		part(2, func(p *img.Part) { p.Name = s }, api.ErrName)
	}
	part(1, func(p *img.Part) { p.Name = "main" }, api.ErrTwice)
	part(2, func(p *img.Part) { p.Name = "main" }, api.ErrTwice)
	part(2, func(p *img.Part) { p.Name = "_234567890abcDEF" }, api.ErrTwice)
	for k := range 3 {
		part(k, func(p *img.Part) { p.Code.Size = 0 }, api.ErrShort)
		for _, n := range []int{65, 66, 300} {
			part(k, func(p *img.Part) { p.Entries = make([]uint32, n) }, api.ErrLong)
			part(k, func(p *img.Part) { p.Entries = slices.Repeat([]uint32{p.Code.At}, n) }, api.ErrLong)
		}
	}
	return all
}

func faultyEntries() []change {
	var all []change
	entry := func(part, k, which int, at uint32, of error) {
		all = append(all, change{func(i *img.Image) { i.Parts[part].Entries[k] = at }, "entry", which, of})
	}
	for _, at := range []uint32{1, 2, 3, 63, 65, 66, 67, 69, 70, 109, 110, 111, 113, math.MaxUint32, 1<<31 + 2} {
		for k := range 3 {
			entry(0, k, k, at, api.ErrAlign)
		}
		entry(1, 0, 3, at, api.ErrAlign)
	}
	for _, at := range []uint32{0, 4, 16, 28, 60, 112, 116, 208, 256, 1020, 1024, 1 << 16, 1 << 31, 1<<32 - 4, 1<<16 + 64, 1<<31 + 68} {
		for k := range 3 {
			entry(0, k, k, at, api.ErrRange)
		}
		entry(1, 0, 3, at, api.ErrRange)
	}
	entry(1, 0, 3, 236, api.ErrRange)
	entry(0, 1, 1, 64, api.ErrTwice)
	entry(0, 2, 2, 64, api.ErrTwice)
	entry(0, 2, 2, 68, api.ErrTwice)
	entry(0, 0, 1, 68, api.ErrTwice)
	entry(0, 0, 1, 72, api.ErrTwice)
	entry(0, 1, 2, 108, api.ErrTwice)
	return append(all, change{func(i *img.Image) { i.Parts[2].Entries = []uint32{16, 28, 32} }, "entry", 6, api.ErrRange},
		change{func(i *img.Image) { i.Parts[2].Entries = []uint32{16, 20, 20, 16} }, "entry", 6, api.ErrTwice},
		change{func(i *img.Image) { i.Parts[2].Entries = []uint32{64} }, "entry", 4, api.ErrRange},
		change{func(i *img.Image) { i.Parts[1].Entries = []uint32{240, 244, 248, 252, 254} }, "entry", 7, api.ErrAlign},
		change{func(i *img.Image) { i.Parts[0].Entries, i.Parts[1].Entries[0] = nil, 240+16 }, "entry", 0, api.ErrRange},
		change{func(i *img.Image) { i.Parts[0].Entries = slices.Repeat([]uint32{64}, 64) }, "entry", 1, api.ErrTwice},
		change{func(i *img.Image) { i.Parts[0].Entries = make([]uint32, 64) }, "entry", 0, api.ErrRange})
}

// odd answers numbers that are no place in a list of three.
func odd() []int {
	return []int{-1, -2, 3, 4, 8, 64, 1 << 8, 1 << 16, 1 << 31, 1 << 32, 1<<32 + 1, 1<<32 + 2, math.MaxInt, math.MinInt, math.MinInt + 2}
}

// faultyInits: what is asked of each Init, whatever its Kind is.
func faultyInits() []change {
	var all []change
	init := func(k int, do func(x *img.Init), of error) {
		all = append(all, change{func(i *img.Image) { do(&i.Inits[k]) }, "init", k, of})
	}
	for _, n := range []int{513, 514, 600, 1024} {
		all = append(all, change{func(i *img.Image) { i.Inits = make([]img.Init, n) }, "inits", n, api.ErrLong})
	}
	all = append(all, change{func(i *img.Image) { i.Inits = slices.Repeat(i.Inits[:1], 512) }, "init", 1, api.ErrTwice},
		change{func(i *img.Image) { i.Inits = make([]img.Init, 512) }, "init", 0, api.ErrRange},
		change{func(i *img.Image) { i.Inits[2], i.Inits[0] = i.Inits[0], i.Inits[2] }, "init", 1, api.ErrTwice},
		change{func(i *img.Image) { i.Inits[3], i.Inits[4] = i.Inits[4], i.Inits[3] }, "init", 4, api.ErrTwice},
		change{func(i *img.Image) { i.Inits = append(i.Inits, i.Inits[1]) }, "init", 7, api.ErrTwice},
		change{func(i *img.Image) { i.Inits = append(i.Inits, i.Inits[6]) }, "init", 7, api.ErrTwice})
	for k := range 7 {
		for _, n := range odd() {
			init(k, func(x *img.Init) { x.Comp = n }, api.ErrRange)
		}
		for _, n := range []uint32{1, 2, 4, 8, 15} {
			init(k, func(x *img.Init) { x.At += n }, api.ErrAlign)
			init(k, func(x *img.Init) { x.At -= n }, api.ErrAlign)
		}
		for _, at := range []uint32{0, 16, 64, 96, 208, 224, 1008, 1024, 1 << 16, 1 << 31, 1<<31 + 112, 1<<32 - 16} {
			init(k, func(x *img.Init) { x.At = at }, api.ErrRange)
		}
		init(k, func(x *img.Init) { x.Comp = 1 }, api.ErrRange)
		init(k, func(x *img.Init) { x.Comp = 2 - x.Comp }, api.ErrRange)
		for _, n := range append(odd(), 0) {
			if n != 3 {
				init(k, func(x *img.Init) { x.Kind = n }, api.ErrKind)
				init(k, func(x *img.Init) { *x = img.Init{Comp: x.Comp, At: x.At, Kind: n} }, api.ErrKind)
			}
		}
		if ahead := some().Inits[max(k, 1)-1]; k > 0 && ahead.Comp == some().Inits[k].Comp {
			init(k, func(x *img.Init) { x.At = ahead.At }, api.ErrTwice)
		}
	}
	init(3, func(x *img.Init) { x.At = 112 }, api.ErrTwice)
	init(5, func(x *img.Init) { x.At = 128 }, api.ErrTwice)
	init(6, func(x *img.Init) { x.At = 144 }, api.ErrTwice)
	init(1, func(x *img.Init) { x.At = 32 }, api.ErrTwice)
	return all
}

// faultyOwns: of code, and of data.
func faultyOwns() []change {
	var all []change
	init := func(k int, do func(x *img.Init), of error) {
		all = append(all, change{func(i *img.Image) { do(&i.Inits[k]) }, "init", k, of})
	}
	for _, k := range []int{0, 2, 3} {
		for _, n := range append(odd(), 1, 2) {
			init(k, func(x *img.Init) { x.From = n }, api.ErrKind)
		}
		for _, addr := range []uint32{0, 15, 209, 224, 240, 1024, 1 << 16, 1 << 31, 1<<31 + 112, math.MaxUint32} {
			init(k, func(x *img.Init) { x.Addr = addr }, api.ErrRange)
		}
	}
	for k, addrs := range map[int][]uint32{0: {31, 65, 16, 112}, 2: {63, 113, 208}, 3: {111, 209, 64}} {
		for _, addr := range addrs {
			init(k, func(x *img.Init) { x.Addr = addr }, api.ErrRange)
		}
	}
	init(0, func(x *img.Init) { x.Data = false }, api.ErrRange)
	init(2, func(x *img.Init) { x.Data = true }, api.ErrPerm)
	for bit := range 16 {
		one := uint16(1) << bit
		if one != api.R && one != api.X && one != api.LC {
			init(2, func(x *img.Init) { x.Perm = one }, api.ErrPerm)
			init(2, func(x *img.Init) { x.Perm |= one }, api.ErrPerm)
		}
		if one != api.R && one != api.W && one != api.LC && one != api.SC {
			init(0, func(x *img.Init) { x.Perm |= one }, api.ErrPerm)
			init(3, func(x *img.Init) { x.Perm = one }, api.ErrPerm)
		}
	}
	return all
}

// faultyCalls: what an Import may not be of.
func faultyCalls() []change {
	var all []change
	init := func(k int, do func(x *img.Init), of error) {
		all = append(all, change{func(i *img.Image) { do(&i.Inits[k]) }, "init", k, of})
	}
	for _, k := range []int{1, 4} {
		init(k, func(x *img.Init) { x.Data = true }, api.ErrKind)
		for bit := range 16 {
			init(k, func(x *img.Init) { x.Perm = 1 << bit }, api.ErrKind)
		}
		for _, n := range odd() {
			init(k, func(x *img.Init) { x.From = n }, api.ErrRange)
		}
		for _, addr := range []uint32{0, 16, 63, 65, 72, 104, 109, 112, 240, 248, 251, 253, 256, 1 << 31, 1<<16 + 252, 1<<31 + 252, 1<<16 + 108, math.MaxUint32} {
			init(k, func(x *img.Init) { x.Addr = addr }, api.ErrName)
		}
		init(k, func(x *img.Init) { x.From = 2 }, api.ErrName)
		init(k, func(x *img.Init) { x.From = 1 - x.From }, api.ErrName)
		init(k, func(x *img.Init) { x.Kind = obj.Own }, map[int]error{1: api.ErrRange, 4: api.ErrKind}[k])
		init(k, func(x *img.Init) { x.Kind = obj.Share }, api.ErrRange)
	}
	for _, addr := range []uint32{64, 68, 108} {
		init(4, func(x *img.Init) { x.From, x.Addr = 0, addr }, api.ErrKind)
	}
	return append(all, change{func(i *img.Image) { i.Parts[2].Entries, i.Inits[1].From, i.Inits[1].Addr = []uint32{28}, 2, 28 }, "init", 1, api.ErrKind},
		change{func(i *img.Image) { i.Parts[0].Entries = i.Parts[0].Entries[:2] }, "init", 1, api.ErrName},
		change{func(i *img.Image) { i.Parts[1].Entries = nil }, "init", 4, api.ErrName})
}

// faultyShares: what an Init of a share may not be.
func faultyShares() []change {
	var all []change
	init := func(k int, do func(x *img.Init), of error) {
		all = append(all, change{func(i *img.Image) { do(&i.Inits[k]) }, "init", k, of})
	}
	for _, k := range []int{5, 6} {
		init(k, func(x *img.Init) { x.Data = true }, api.ErrKind)
		for _, n := range append(odd(), 1, 2-some().Inits[k].From) {
			init(k, func(x *img.Init) { x.From = n }, api.ErrRange)
		}
		for _, addr := range []uint32{0, 16, 288, 303, 305, 320, 1007, 1009, 1024, 1<<16 + 304, 1<<31 + 304, 1<<31 + 1008, math.MaxUint32} {
			init(k, func(x *img.Init) { x.Addr = addr }, api.ErrRange)
		}
		init(k, func(x *img.Init) { x.Perm = 0 }, api.ErrPerm)
		for bit := 2; bit < 16; bit++ {
			init(k, func(x *img.Init) { x.Perm = 1 << bit }, api.ErrPerm)
			init(k, func(x *img.Init) { x.Perm |= 1 << bit }, api.ErrPerm)
		}
		init(k, func(x *img.Init) { x.Kind = obj.Own }, map[int]error{5: api.ErrKind, 6: api.ErrRange}[k])
		init(k, func(x *img.Init) { x.Kind = obj.Import }, api.ErrKind)
	}
	return append(all, change{func(i *img.Image) { i.Shares = i.Shares[:2] }, "init", 5, api.ErrRange},
		change{func(i *img.Image) { i.Shares[0].At = 320 }, "init", 6, api.ErrRange},
		change{func(i *img.Image) { i.Shares = nil }, "init", 5, api.ErrRange})
}

func faultyStarts() []change {
	var all []change
	for _, n := range odd() {
		all = append(all, change{func(i *img.Image) { i.Start = n }, "start", n, api.ErrRange})
	}
	for _, addr := range []uint32{0, 16, 60, 65, 67, 69, 72, 104, 112, 240, 252, 1<<16 + 68, 1<<31 + 68, math.MaxUint32} {
		all = append(all, change{func(i *img.Image) { i.Addr = addr }, "start", 0, api.ErrName})
	}
	return append(all, change{func(i *img.Image) { i.Start = 1 }, "start", 1, api.ErrName},
		change{func(i *img.Image) { i.Start = 2 }, "start", 2, api.ErrName},
		change{func(i *img.Image) { i.Start, i.Addr = 2, 16 }, "start", 2, api.ErrName},
		change{func(i *img.Image) { i.Parts[0].Entries = []uint32{64, 108} }, "start", 0, api.ErrName})
}

func TestFaults(t *testing.T) { // P1801, P3, P4
	for k, c := range faulty() {
		i := some()
		c.do(&i)
		want := api.Fault{Part: c.part, At: c.at, Err: c.of}
		if err := img.Check(i); !same(err, want) {
			t.Errorf("P1801: %d: %v; want %v of %s", k, err, &want, told(i))
		}
		if f := agrees(t, i); f != want {
			t.Errorf("P1801, told another way: %d: %v; want %v", k, &f, &want)
		}
	}
}

// fine answers changes of some() that Check takes.
func fine() []func(i *img.Image) {
	all := []func(i *img.Image){
		func(i *img.Image) {},
		func(i *img.Image) {
			*i = img.Image{Size: 32, Parts: []img.Part{{Name: "a", Code: img.Span{At: 16, Size: 16}, Data: img.Span{At: 16}, Stack: img.Span{At: 16}, Entries: []uint32{16}}}, Addr: 16}
		},
		func(i *img.Image) {
			*i = img.Image{Size: 65536, Parts: []img.Part{{Name: "_", Code: img.Span{At: 16, Size: 65520}, Data: img.Span{At: 65536}, Stack: img.Span{At: 65536}, Entries: []uint32{65532}}}, Shares: []img.Span{}, Inits: []img.Init{}, Addr: 65532}
		},
		func(i *img.Image) { i.Size = 65536 },
		func(i *img.Image) { i.Size = 1040 },
		func(i *img.Image) { i.Bytes = nil },
		func(i *img.Image) { i.Bytes = []byte{} },
		func(i *img.Image) { i.Bytes = make([]byte, 1023) },
		func(i *img.Image) { i.Bytes = make([]byte, 1024) },
		func(i *img.Image) { i.Size, i.Bytes = 65536, make([]byte, 65536) },
		func(i *img.Image) { i.Inits = nil },
		func(i *img.Image) { i.Inits = []img.Init{} },
		func(i *img.Image) { i.Inits = i.Inits[:1] },
		func(i *img.Image) { i.Inits = i.Inits[6:] },
		func(i *img.Image) { i.Shares, i.Inits = nil, i.Inits[:5] },
		func(i *img.Image) { i.Parts, i.Inits = i.Parts[:2], i.Inits[2:] },
		func(i *img.Image) { i.Parts, i.Inits = i.Parts[:1], i.Inits[5:] },
		func(i *img.Image) { i.Parts[2].Entries = []uint32{} },
		func(i *img.Image) { i.Parts[2].Entries = []uint32{16, 20, 24, 28} },
		func(i *img.Image) { i.Parts[0].Entries = []uint32{64, 68, 72, 76, 104, 108} },
		func(i *img.Image) { i.Parts[2].Name = "B" },
		func(i *img.Image) { i.Parts[2].Name = "MAIN" },
		func(i *img.Image) { i.Parts[2].Name = "_234567890abcDEf" },
		func(i *img.Image) { i.Start, i.Addr = 1, 252 },
		func(i *img.Image) { i.Addr = 64 },
		func(i *img.Image) { i.Addr = 108 },
		func(i *img.Image) { i.Inits[0].Addr = 32 },
		func(i *img.Image) { i.Inits[0].Addr = 63 },
		func(i *img.Image) { i.Inits[2].Addr = 64 },
		func(i *img.Image) { i.Inits[2].Addr = 65 },
		func(i *img.Image) { i.Inits[3].Addr = 208 },
		func(i *img.Image) { i.Inits[1].Addr = 64 },
		func(i *img.Image) { i.Inits[1].From, i.Inits[1].Addr = 1, 252 },
		func(i *img.Image) { i.Inits[6].At = 176 },
		func(i *img.Image) { i.Inits[5].At = 176 },
		func(i *img.Image) { i.Inits[5].From, i.Inits[5].Addr = 1, 288 },
		func(i *img.Image) { i.Inits[0].Data, i.Inits[0].Addr, i.Inits[0].Perm = false, 32, 13 },
		func(i *img.Image) { i.Shares = slices.Repeat(i.Shares[:1], 8); i.Inits = i.Inits[:5] },
		func(i *img.Image) {
			for k := range uint32(5) {
				i.Shares = append(i.Shares, img.Span{At: 512 + 16*k, Size: 16})
				i.Parts = append(i.Parts, img.Part{Name: "p" + strconv.Itoa(int(k)), Code: img.Span{At: 768 + 16*k, Size: 16}, Data: img.Span{At: 1024}, Stack: img.Span{At: 16}})
			}
		},
	}
	for k := range 12 { // those of no bytes, wherever they are; and how far the others reach
		if k == 4 || k == 8 {
			for at := uint32(16); at <= 1024; at += 16 {
				all = append(all, func(i *img.Image) { spanOf(i, k).At = at })
			}
		}
		if k == 2 || k == 5 || k == 10 {
			all = append(all, func(i *img.Image) { spanOf(i, k).Size = 0 }, func(i *img.Image) { spanOf(i, k).Size = 16 })
		}
		if k == 2 || k == 5 {
			for at := uint32(352); at < 1008; at += 32 {
				all = append(all, func(i *img.Image) { *spanOf(i, k) = img.Span{At: at, Size: 1008 - at} })
			}
		}
	}
	for perm := range uint16(256) {
		if perm&^13 == 0 {
			all = append(all, func(i *img.Image) { i.Inits[2].Perm = perm })
		}
		if perm&^27 == 0 {
			all = append(all, func(i *img.Image) { i.Inits[0].Perm = perm }, func(i *img.Image) { i.Inits[3].Perm = perm })
		}
		if perm&^3 == 0 && perm > 0 {
			all = append(all, func(i *img.Image) { i.Inits[5].Perm = perm }, func(i *img.Image) { i.Inits[6].Perm = perm })
		}
	}
	return all
}

func TestFine(t *testing.T) { // P1801, P3
	for k, do := range fine() {
		i := some()
		do(&i)
		if err := img.Check(i); err != nil {
			t.Errorf("P1801: %d: %v of %s", k, err, told(i))
		}
		if f := agrees(t, i); f != (api.Fault{}) {
			t.Errorf("P1801, told another way: %d: %v", k, &f)
		}
	}
}

// whole tells whether i has as much of all as some() has, and no more than there
// may be, so that each change of it can be done.
func whole(i img.Image) bool {
	return len(i.Parts) == 3 && len(i.Shares) == 3 && len(i.Inits) == 7 && len(i.Parts[0].Entries) == 3 && len(i.Parts[1].Entries) == 1
}

// TestOrder: two faults together, of all the pairs one in many.
func TestOrder(t *testing.T) { // P1801, P6
	all, both := faulty(), 0
	for n, a := range all {
		for k, b := range all {
			i := some()
			if a.do(&i); (n+k)%67 > 0 || !whole(i) {
				continue
			}
			b.do(&i)
			if agrees(t, i) != (api.Fault{}) {
				both++
			}
		}
	}
	if both < 10000 {
		t.Errorf("only %d have faults", both)
	}
}

// TestOrderOfRules: of each rule's faults some with some of each other's.
func TestOrderOfRules(t *testing.T) { // P1801, P6
	var few []change
	seen := map[api.Fault]int{}
	for _, c := range faulty() {
		f := api.Fault{Part: c.part, At: c.at, Err: c.of}
		if c.counts() {
			f.At = 0
		}
		if seen[f]++; seen[f] <= 2 {
			few = append(few, c)
		}
	}
	pairs := map[[2]string]int{}
	for _, a := range few {
		for _, b := range few {
			i := some()
			if a.do(&i); whole(i) || b.counts() {
				b.do(&i)
				agrees(t, i)
				pairs[[2]string{a.part, b.part}]++
			}
		}
	}
	if len(few) < 100 || len(pairs) < 80 || pairs[[2]string{"parts", "shares"}] == 0 {
		t.Errorf("only %d faults, %d pairs", len(few), len(pairs))
	}
}

// counts tells whether c is of how many there are of something; it can be done
// whatever else an image has.
func (c change) counts() bool { return strings.HasSuffix(c.part, "s") || c.part == "size" }

// pair answers a small image of two parts, an Init in either one's Data.
func pair() img.Image {
	return img.Image{
		Size: 160,
		Parts: []img.Part{
			{Name: "a", Code: img.Span{At: 16, Size: 16}, Data: img.Span{At: 32, Size: 32}, Stack: img.Span{At: 64, Size: 16}, Entries: []uint32{20}},
			{Name: "b", Code: img.Span{At: 80, Size: 16}, Data: img.Span{At: 96, Size: 16}, Stack: img.Span{At: 112, Size: 16}, Entries: []uint32{80, 92}},
		},
		Shares: []img.Span{{At: 128, Size: 16}, {At: 144, Size: 16}},
		Inits:  []img.Init{{At: 32, Kind: obj.Own, Addr: 16}},
		Start:  1, Addr: 92,
	}
}

// TestAllSpans: two Spans that may lie everywhere, beside others.
func TestAllSpans(t *testing.T) { // P1801, P6
	seen := map[api.Fault]int{}
	edges := []uint32{0, 8, 16, 32, 48, 64, 80, 96, 112, 128, 144, 160, 176, 1<<32 - 16, 1<<32 - 8}
	for _, spans := range [][2]int{{0, 1}, {2, 5}, {5, 6}, {6, 7}, {1, 3}} {
		for _, at := range edges {
			for _, size := range edges {
				for next := uint32(16); next <= 160; next += 16 {
					for _, more := range []uint32{0, 16, 48} {
						i := pair()
						*spanOf(&i, spans[0]) = img.Span{At: at, Size: size}
						*spanOf(&i, spans[1]) = img.Span{At: next, Size: more}
						seen[agrees(t, i)]++
					}
				}
			}
		}
	}
	if len(seen) < 25 || seen[api.Fault{}] < 100 {
		t.Errorf("only %d Faults are told, none of %d", len(seen), seen[api.Fault{}])
	}
}

// TestAllInits: an Init with all that its fields may be, alone and behind
// another one.
func TestAllInits(t *testing.T) { // P1801, P6
	i, behind := pair(), pair()
	seen := map[api.Fault]int{}
	try := func(x img.Init) {
		i.Inits = []img.Init{x}
		seen[agrees(t, i)]++
		behind.Inits = []img.Init{pair().Inits[0], x}
		seen[agrees(t, behind)]++
	}
	for comp := -1; comp < 3; comp++ {
		for _, at := range []uint32{16, 32, 40, 48, 64, 96, 112, 1<<32 - 16} {
			for kind := range 5 {
				for from := -1; from < 3; from++ {
					for _, addr := range []uint32{15, 16, 20, 32, 33, 64, 80, 92, 96, 112, 128, 144} {
						for _, perm := range []uint16{0, 1, 3, 4, 16, 32} {
							try(img.Init{Comp: comp, At: at, Kind: kind, From: from, Addr: addr, Perm: perm})
							try(img.Init{Comp: comp, At: at, Kind: kind, Data: true, From: from, Addr: addr, Perm: perm})
						}
					}
				}
			}
		}
	}
	if len(seen) != 12 || seen[api.Fault{}] < 100 {
		t.Errorf("%d Faults are told, none of %d", len(seen), seen[api.Fault{}])
	}
}

// TestAllPerms: all that a Perm can have.
func TestAllPerms(t *testing.T) { // P1801
	i, taken := some(), 0
	for perm := range 1 << 16 {
		for k := range i.Inits {
			kept := i.Inits[k].Perm
			i.Inits[k].Perm = uint16(perm)
			if img.Check(i) == nil {
				taken++
			}
			if perm < 256 || perm > 65500 {
				agrees(t, i)
			}
			i.Inits[k].Perm = kept
		}
	}
	if taken != 2*16+8+2*3+2*1 {
		t.Errorf("P1801: %d Perms are taken", taken)
	}
}

// TestAllPlaces: all sizes, all places of an Entry, of a Start, of an Own.
func TestAllPlaces(t *testing.T) { // P1801
	taken := 0
	for n := range uint32(65600) {
		i := some()
		i.Size = n
		if agrees(t, i) == (api.Fault{}) {
			taken++
		}
	}
	if taken != 65536/16-1024/16+1 {
		t.Errorf("P1801: %d sizes are taken", taken)
	}
	for at := range uint32(1100) {
		for _, do := range []func(i *img.Image){
			func(i *img.Image) { i.Parts[0].Entries[0] = at },
			func(i *img.Image) { i.Parts[1].Entries[0] = at },
			func(i *img.Image) { i.Parts[2].Entries = []uint32{at} },
			func(i *img.Image) { i.Parts[2].Entries = []uint32{at, 28} },
			func(i *img.Image) { i.Addr = at },
			func(i *img.Image) { i.Start, i.Addr = 1, at },
			func(i *img.Image) { i.Inits[0].Addr = at },
			func(i *img.Image) { i.Inits[1].Addr = at },
			func(i *img.Image) { i.Inits[2].Addr = at },
			func(i *img.Image) { i.Inits[3].Addr = at },
			func(i *img.Image) { i.Inits[5].Addr = at },
			func(i *img.Image) { i.Inits[0].At = at },
			func(i *img.Image) { i.Inits[2].At = at },
			func(i *img.Image) { i.Inits[6].At = at },
			func(i *img.Image) { i.Shares[2].At = at },
			func(i *img.Image) { i.Shares[1].Size = at },
			func(i *img.Image) { i.Parts[1].Data.At = at },
			func(i *img.Image) { i.Parts[1].Stack.Size = at },
			func(i *img.Image) { i.Bytes = make([]byte, at) },
		} {
			i := some()
			do(&i)
			agrees(t, i)
		}
	}
}

// TestAllCounts: all counts up to the limits, and one more.
func TestAllCounts(t *testing.T) { // P1801
	all := great()
	all.Inits, all.Start, all.Addr, all.Bytes = nil, 0, 16, nil
	for n := range 9 {
		i := copied(all)
		if i.Parts = i.Parts[:n]; (agrees(t, i) == api.Fault{}) != (n > 0) {
			t.Errorf("P1801, told another way: %d parts", n)
		}
		i = copied(all)
		if i.Shares = i.Shares[:n]; agrees(t, i) != (api.Fault{}) {
			t.Errorf("P1801, told another way: %d shares", n)
		}
	}
	for n := range 65 {
		i := copied(all)
		if i.Parts[7].Entries = i.Parts[7].Entries[:n]; agrees(t, i) != (api.Fault{}) {
			t.Errorf("P1801, told another way: %d Entries", n)
		}
	}
	all = great()
	all.Bytes = nil
	for n := range 513 {
		i := all
		if i.Inits = all.Inits[:n]; agrees(t, i) != (api.Fault{}) {
			t.Errorf("P1801, told another way: %d Inits", n)
		}
	}
	for want, do := range map[string]func(i *img.Image){
		"parts 9: long":     func(i *img.Image) { i.Parts = append(i.Parts, i.Parts[0]) },
		"shares 9: long":    func(i *img.Image) { i.Shares = append(i.Shares, img.Span{At: 65536}) },
		"part 7: long":      func(i *img.Image) { i.Parts[7].Entries = append(i.Parts[7].Entries, 61872) },
		"inits 513: long":   func(i *img.Image) { i.Inits = append(i.Inits, i.Inits[511]) },
		"size 65552: range": func(i *img.Image) { i.Size += 16 },
	} {
		i := copied(all)
		do(&i)
		if f := agrees(t, i); f.Error() != want {
			t.Errorf("P1801, told another way: %v; want %s", &f, want)
		}
	}
}

// TestByChance: images with many changes by chance.
func TestByChance(t *testing.T) { // P1801, P1, P3
	c, bad, good := chance(18), faulty(), fine()
	parts := map[string]int{}
	for range 40000 {
		i := some()
		for range c.below(4) {
			if whole(i) {
				good[c.below(len(good))](&i)
			}
		}
		for range c.below(4) {
			if whole(i) {
				bad[c.below(len(bad))].do(&i)
			}
		}
		parts[agrees(t, i).Part]++
	}
	for _, part := range []string{"", "size", "bytes", "parts", "shares", "span", "part", "entry", "inits", "init", "start"} {
		if parts[part] < 20 {
			t.Errorf("%q is told only %d times", part, parts[part])
		}
	}
}
