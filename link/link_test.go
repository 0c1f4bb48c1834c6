package link_test

import (
	"errors"
	"slices"
	"strconv"
	"strings"
	"testing"

	"hasp/api"
	"hasp/asm"
	"hasp/code"
	"hasp/img"
	"hasp/link"
	"hasp/man"
	"hasp/obj"
)

// given is what Link is handed.
type given struct {
	m    man.Manifest
	objs []obj.Object
	size uint32
}

// some answers what is linked well and has of each what it may have, at the
// edges too: objects in another order than their compartments, Codes that fill
// their granules and that do not, a compartment without Data, two names of one
// place, Syms at the ends of their sections, Rels at the begin and at the end of
// a Data, a share that nobody has.
func some() given {
	return given{
		man.Manifest{
			Comps:   []man.Comp{{Name: "main", Stack: 32}, {Name: "B", Stack: 16}, {Name: "_234567890abcDEF", Stack: 64}, {Name: "A", Stack: 48}},
			Imports: []man.Import{{Comp: "main", From: "_234567890abcDEF", Name: "put"}, {Comp: "A", From: "main", Name: "go"}, {Comp: "_234567890abcDEF", From: "main", Name: "go"}, {Comp: "main", From: "B", Name: "put"}},
			Shares:  []man.Share{{Name: "s", Size: 16}, {Name: "t", Size: 48}, {Name: "u", Size: 32}},
			Grants:  []man.Grant{{Comp: "A", Share: "s", Perm: api.R}, {Comp: "main", Share: "t", Perm: api.W}, {Comp: "_234567890abcDEF", Share: "s", Perm: api.R | api.W}, {Comp: "B", Share: "t", Perm: api.R | api.W}},
			Start:   man.Import{From: "main", Name: "go"},
		},
		[]obj.Object{
			{
				Name: "_234567890abcDEF", Code: []byte("code of log."), Data: []byte("the data of log."),
				Syms: []obj.Sym{{Name: "first", Export: true}, {Name: "get", Off: 8, Export: true}, {Name: "go", Off: 4}, {Name: "inner", Off: 8}, {Name: "put", Off: 8, Export: true}},
				Rels: []obj.Rel{{Kind: obj.Share, Name: "s"}},
			},
			{
				Name: "A", Code: []byte("sixteen of them."), Data: []byte("A has as many as thirty and two."),
				Syms: []obj.Sym{{Name: "go", Off: 16}},
				Rels: []obj.Rel{{Kind: obj.Import, Comp: "main", Name: "go"}, {Kind: obj.Share, Off: 16, Name: "s"}},
			},
			{
				Name: "main", Code: []byte("code of main, twenty"), Data: []byte(strings.Repeat("some data: main.", 6)),
				Syms: []obj.Sym{{Name: "end", Off: 20}, {Name: "go", Off: 8, Export: true}, {Name: "last", Off: 16, Export: true}, {Name: "top", Data: true, Off: 96}, {Name: "v", Data: true, Off: 5}},
				Rels: []obj.Rel{
					{Kind: obj.Own, Name: "top", Perm: api.R | api.W | api.LC | api.SC},
					{Kind: obj.Own, Off: 16, Name: "end", Perm: api.R | api.X | api.LC},
					{Kind: obj.Import, Off: 32, Comp: "_234567890abcDEF", Name: "put"},
					{Kind: obj.Share, Off: 48, Name: "t"},
					{Kind: obj.Own, Off: 80, Name: "v"},
				},
			},
			{Name: "B", Code: []byte("four"), Syms: []obj.Sym{{Name: "put", Export: true}}},
		},
		1024,
	}
}

// linked is the image that some is.
func linked() img.Image {
	i := img.Image{
		Size: 1024,
		Parts: []img.Part{
			{Name: "main", Code: img.Span{At: 16, Size: 32}, Data: img.Span{At: 48, Size: 96}, Stack: img.Span{At: 144, Size: 32}, Entries: []uint32{24, 32}},
			{Name: "B", Code: img.Span{At: 176, Size: 16}, Data: img.Span{At: 192}, Stack: img.Span{At: 192, Size: 16}, Entries: []uint32{176}},
			{Name: "_234567890abcDEF", Code: img.Span{At: 208, Size: 16}, Data: img.Span{At: 224, Size: 16}, Stack: img.Span{At: 240, Size: 64}, Entries: []uint32{208, 216}},
			{Name: "A", Code: img.Span{At: 304, Size: 16}, Data: img.Span{At: 320, Size: 32}, Stack: img.Span{At: 352, Size: 48}},
		},
		Shares: []img.Span{{At: 400, Size: 16}, {At: 416, Size: 48}, {At: 464, Size: 32}},
		Inits: []img.Init{
			{Comp: 0, At: 48, Kind: obj.Own, Data: true, Addr: 144, Perm: api.R | api.W | api.LC | api.SC},
			{Comp: 0, At: 64, Kind: obj.Own, Addr: 36, Perm: api.R | api.X | api.LC},
			{Comp: 0, At: 80, Kind: obj.Import, From: 2, Addr: 216},
			{Comp: 0, At: 96, Kind: obj.Share, From: 1, Addr: 416, Perm: api.W},
			{Comp: 0, At: 128, Kind: obj.Own, Data: true, Addr: 53},
			{Comp: 2, At: 224, Kind: obj.Share, From: 0, Addr: 400, Perm: api.R | api.W},
			{Comp: 3, At: 320, Kind: obj.Import, From: 0, Addr: 24},
			{Comp: 3, At: 336, Kind: obj.Share, From: 0, Addr: 400, Perm: api.R},
		},
		Start: 0,
		Addr:  24,
		Bytes: make([]byte, 352),
	}
	copy(i.Bytes[16:], "code of main, twenty")
	copy(i.Bytes[48:], strings.Repeat("some data: main.", 6))
	copy(i.Bytes[176:], "four")
	copy(i.Bytes[208:], "code of log.")
	copy(i.Bytes[224:], "the data of log.")
	copy(i.Bytes[304:], "sixteen of them.A has as many as thirty and two.")
	return i
}

// great answers what has the most of all, and wants all that a memory may have.
func great() given {
	g := given{size: 65536}
	name := func(k int) string { return "ABCDEFGHIJKLMN_" + strconv.Itoa(k%8) }
	symbol := func(k int) string { return "symbol_" + strconv.Itoa(1000+k) }
	for c := range 8 {
		o := obj.Object{Name: name(c), Code: make([]byte, 2048-4*c), Data: make([]byte, 1024)}
		for k := range o.Code {
			o.Code[k] = byte(k*7 ^ c)
		}
		for k := range o.Data {
			o.Data[k] = byte(k*3 ^ k>>8 ^ c)
		}
		for k := range 256 {
			o.Syms = append(o.Syms, obj.Sym{Name: symbol(k), Data: k >= 128, Off: uint32(4 * (k % 64)), Export: k < 128})
		}
		for k := range uint32(64) {
			r := obj.Rel{Kind: 1 + int(k)%3, Off: 16 * k}
			switch r.Kind {
			case obj.Own:
				r.Name, r.Perm = symbol(4*int(k)), api.R|api.LC
			case obj.Import:
				r.Comp, r.Name = name(c+1), symbol(int(k)%8)
			case obj.Share:
				r.Name = name(int(k) / 3)
			}
			o.Rels = append(o.Rels, r)
		}
		g.objs = append(g.objs, o)
		g.m.Comps = append(g.m.Comps, man.Comp{Name: name(c), Stack: 4096})
		g.m.Shares = append(g.m.Shares, man.Share{Name: name(c), Size: 1024})
		for k := range 8 {
			g.m.Imports = append(g.m.Imports, man.Import{Comp: name(c), From: name(c + 1), Name: symbol(k)})
			g.m.Grants = append(g.m.Grants, man.Grant{Comp: name(c), Share: name(k), Perm: uint16(1 + (c+k)%3)})
		}
	}
	g.m.Shares[7].Size = 1072
	g.m.Start = man.Import{From: name(7), Name: symbol(127)}
	return g
}

// copied answers g in memory of its own.
func copied(g given) given {
	g.m.Comps, g.m.Imports, g.m.Shares, g.m.Grants = slices.Clone(g.m.Comps), slices.Clone(g.m.Imports), slices.Clone(g.m.Shares), slices.Clone(g.m.Grants)
	g.objs = slices.Clone(g.objs)
	for k, o := range g.objs {
		o.Code, o.Data, o.Syms, o.Rels = slices.Clone(o.Code), slices.Clone(o.Data), slices.Clone(o.Syms), slices.Clone(o.Rels)
		g.objs[k] = o
	}
	return g
}

// alike holds what Link is handed against another.
func alike(a, b given) bool {
	return a.size == b.size && a.m.Start == b.m.Start &&
		slices.Equal(a.m.Comps, b.m.Comps) && slices.Equal(a.m.Imports, b.m.Imports) &&
		slices.Equal(a.m.Shares, b.m.Shares) && slices.Equal(a.m.Grants, b.m.Grants) &&
		slices.EqualFunc(a.objs, b.objs, obj.Same)
}

// told keeps what is told of an image short.
func told(i img.Image) string {
	num := func(n uint32) string { return strconv.FormatUint(uint64(n), 10) }
	span := func(s img.Span) string { return num(s.At) + "+" + num(s.Size) }
	all := []string{"size " + num(i.Size) + " parts " + strconv.Itoa(len(i.Parts)) + " shares " + strconv.Itoa(len(i.Shares)) + " inits " + strconv.Itoa(len(i.Inits)) + " start " + strconv.Itoa(i.Start) + " " + num(i.Addr) + " bytes " + strconv.Itoa(len(i.Bytes))}
	for _, p := range i.Parts {
		s := "part " + strconv.QuoteToASCII(p.Name) + " " + span(p.Code) + " " + span(p.Data) + " " + span(p.Stack) + " of " + strconv.Itoa(len(p.Entries)) + ":"
		for _, e := range p.Entries[:min(len(p.Entries), 8)] {
			s += " " + num(e)
		}
		all = append(all, s)
	}
	for _, x := range i.Shares {
		all = append(all, "share "+span(x))
	}
	for _, x := range i.Inits[:min(len(i.Inits), 12)] {
		all = append(all, "init "+strconv.Itoa(x.Comp)+" "+num(x.At)+" "+strconv.Itoa(x.Kind)+" "+strconv.FormatBool(x.Data)+" "+strconv.Itoa(x.From)+" "+num(x.Addr)+" "+num(uint32(x.Perm)))
	}
	return strings.Join(all, "\n\t")
}

// chain tells an error that is made of Faults, each of which wraps the next one,
// and of an Errno within; of any other it tells that it is another.
func chain(err error) string {
	var f *api.Fault
	if err == nil || !errors.As(err, &f) || f != err {
		return map[bool]string{true: "", false: "another error"}[err == nil]
	}
	if e, ok := f.Err.(api.Errno); ok && e != api.OK && errors.Is(err, e) {
		return f.Part + " " + strconv.Itoa(f.At) + ": " + e.Error()
	}
	return f.Part + " " + strconv.Itoa(f.At) + ": " + chain(errors.Unwrap(f))
}

// chance answers numbers that look as by chance, the same ones each time.
type chance uint64

func (c *chance) below(n int) int {
	*c = *c*6364136223846793005 + 1442695040888963407
	return int(uint64(*c) >> 33 % uint64(n))
}

// links fails unless Link answers just that image, twice, and img.Check takes it.
func links(t *testing.T, g given, want img.Image) {
	t.Helper()
	for range 2 {
		i, err := link.Link(g.m, g.objs, g.size)
		if err != nil || !img.Same(i, want) {
			t.Fatalf("P1901: Link: %s, %v; want %s", told(i), err, told(want))
		}
		if err := img.Check(i); err != nil {
			t.Fatalf("P1902: %v of %s", err, told(i))
		}
	}
}

// fails fails unless Link answers that error, twice, and nothing beside it.
func fails(t *testing.T, g given, want string) {
	t.Helper()
	for range 2 {
		i, err := link.Link(g.m, g.objs, g.size)
		if chain(err) != want || err.Error() != want {
			t.Fatalf("P1901: Link: %v; want %s", err, want)
		}
		if !img.Same(i, img.Image{}) {
			t.Fatalf("P4: %s beside %v", told(i), err)
		}
	}
}

func TestImage(t *testing.T) { // P1901, P1902, P3
	links(t, some(), linked())
	for _, size := range []uint32{496, 512, 65520, 65536} {
		g, want := some(), linked()
		g.size, want.Size = size, size
		links(t, g, want)
	}
	g := some() // in whatever order the objects are
	for range g.objs {
		g.objs = append(g.objs[1:], g.objs[0])
		links(t, g, linked())
		slices.Reverse(g.objs)
		links(t, g, linked())
	}
	slices.Reverse(g.m.Grants)
	slices.Reverse(g.m.Imports)
	links(t, g, linked())
}

// TestSmall: the least that is linked, and what each of its parts becomes.
func TestSmall(t *testing.T) { // P1901, P1902
	small := func() given {
		return given{
			man.Manifest{Comps: []man.Comp{{Name: "a", Stack: 16}}, Start: man.Import{From: "a", Name: "f"}},
			[]obj.Object{{Name: "a", Code: []byte("abcd"), Syms: []obj.Sym{{Name: "f", Export: true}}}},
			48,
		}
	}
	bytes := func(s string) []byte { return append(make([]byte, 16), s...) }
	part := func(code, data, stack img.Span) []img.Part {
		return []img.Part{{Name: "a", Code: code, Data: data, Stack: stack, Entries: []uint32{16}}}
	}
	want := img.Image{Size: 48, Parts: part(img.Span{At: 16, Size: 16}, img.Span{At: 32}, img.Span{At: 32, Size: 16}), Addr: 16, Bytes: bytes("abcd" + strings.Repeat("\x00", 12))}
	links(t, small(), want)
	for _, n := range []int{4, 8, 12, 16} {
		g := small()
		g.objs[0].Code = []byte("abcdefghijklmnop")[:n]
		want.Bytes = bytes("abcdefghijklmnop"[:n] + strings.Repeat("\x00", 16-n))
		links(t, g, want)
	}
	g := small()
	g.objs[0].Code, g.size = []byte("abcdefghijklmnopqrst"), 64
	want = img.Image{Size: 64, Parts: part(img.Span{At: 16, Size: 32}, img.Span{At: 48}, img.Span{At: 48, Size: 16}), Addr: 16, Bytes: bytes("abcdefghijklmnopqrst" + strings.Repeat("\x00", 12))}
	links(t, g, want)
	g = small() // a share that is at the very end, its Grant's Perm, and the Data to the end of Bytes
	g.objs[0].Data, g.objs[0].Rels, g.size = []byte("ABCDEFGHIJKLMNOP"), []obj.Rel{{Kind: obj.Share, Name: "s"}}, 4176
	g.m.Shares = []man.Share{{Name: "s", Size: 4096}}
	for _, perm := range []uint16{api.R, api.W, api.R | api.W} {
		g.m.Grants = []man.Grant{{Comp: "a", Share: "s", Perm: perm}}
		want = img.Image{
			Size: 4176, Parts: part(img.Span{At: 16, Size: 16}, img.Span{At: 32, Size: 16}, img.Span{At: 48, Size: 16}), Shares: []img.Span{{At: 64, Size: 4096}},
			Inits: []img.Init{{At: 32, Kind: obj.Share, Addr: 64, Perm: perm}}, Addr: 16, Bytes: bytes("abcd" + strings.Repeat("\x00", 12) + "ABCDEFGHIJKLMNOP"),
		}
		links(t, g, want)
	}
}

// TestGreat: the most of all, and far more than that.
func TestGreat(t *testing.T) { // P1901, P1902, P1
	if want := agrees(t, great()); want != "" {
		t.Fatalf("P1901, told another way: %s", want)
	}
	i, err := link.Link(great().m, great().objs, 65536)
	if err != nil || len(i.Parts) != 8 || len(i.Parts[7].Entries) != 64 || len(i.Shares) != 8 || len(i.Inits) != 512 || i.Shares[7] != (img.Span{At: 64464, Size: 1072}) {
		t.Fatalf("P1901: %s, %v", told(i), err)
	}
	const lots = 1 << 20
	for want, do := range map[string]func(g *given){
		"comps 1048576: long":          func(g *given) { g.m.Comps = slices.Repeat(g.m.Comps, lots/8) },
		"imports 1048576: long":        func(g *given) { g.m.Imports = slices.Repeat(g.m.Imports, lots/64) },
		"start 0: name":                func(g *given) { g.m.Start.Name = strings.Repeat("a", lots) },
		"object 8: twice":              func(g *given) { g.objs = slices.Repeat(g.objs, lots/8) },
		"object 3: name 0: name":       func(g *given) { g.objs[3].Name = strings.Repeat("a", lots) },
		"object 7: code 1048576: long": func(g *given) { g.objs[7].Code = make([]byte, lots) },
		"object 0: syms 1048576: long": func(g *given) { g.objs[0].Syms = slices.Repeat(g.objs[0].Syms, lots/256) },
		"object 3: rels 1048576: long": func(g *given) { g.objs[3].Rels = slices.Repeat(g.objs[3].Rels, lots/64) },
		"object 7: rel 63: range":      func(g *given) { g.objs[7].Rels[63].Off = 1<<32 - 16 },
		"object 7: sym 255: range":     func(g *given) { g.objs[7].Syms[255].Off = 1<<32 - 1 },
		"comp 7: long":                 func(g *given) { g.objs[7].Syms[127].Off = 256 },
		"rels 513: long":               func(g *given) { more(g, 7, 1) },
		"import 63: name":              func(g *given) { g.objs[0].Syms[7].Export = false },
		"comp 7: rel 14: perm":         func(g *given) { g.m.Grants = slices.Delete(g.m.Grants, 60, 61) },
		"size 65536: range":            func(g *given) { g.size = 65520 },
	} {
		g := great()
		do(&g)
		if told := agrees(t, g); told != want {
			t.Errorf("P1901, told another way: %s; want %s", told, want)
		}
	}
	for _, size := range []uint32{0, 16, 65536, 65537, 65552, 327680, 327696, 327712, 1<<32 - 1} { // what no memory holds
		g := great()
		for c := range g.objs {
			o := &g.objs[c]
			o.Code, o.Data, g.m.Shares[c].Size = make([]byte, 16384), make([]byte, 16384), 4096
		}
		g.size = size
		if want := agrees(t, g); want != "size 327696: range" {
			t.Errorf("P1901, told another way: %s", want)
		}
	}
}

// more puts Rels behind those of g's k-th object.
func more(g *given, k, n int) {
	o := &g.objs[k]
	for range n {
		off := uint32(0)
		if len(o.Rels) > 0 {
			off = o.Rels[len(o.Rels)-1].Off + 16
		}
		o.Rels = append(o.Rels, obj.Rel{Kind: obj.Own, Off: off, Name: o.Syms[0].Name})
	}
	if last := int(o.Rels[len(o.Rels)-1].Off) + 16; len(o.Data) < last && last <= api.MaxSec {
		o.Data = append(o.Data, make([]byte, last-len(o.Data))...)
	}
}

// TestTexts: what the assembler makes of texts, what a manifest's text says.
func TestTexts(t *testing.T) { // T1, T4, P1901, P1902
	m, err := man.Parse("comp main 64\ncomp log 32\nimport main log put\nshare buf 64\ngrant main buf rw\ngrant log buf r\nstart main go\n")
	if err != nil {
		t.Fatal(err)
	}
	texts := map[string]string{
		"log":  ".data\n.share buf\n.byte 7\n.code\nnop\nput: lda c4, 0\nlc c4, 0(c4)\nret\n.export put\n",
		"main": ".data\n.import log, put\n.share buf\nn: .word 40\n.align 16\n.cap n, 1\n.cap go\n.code\ngo: lda c4, n\nlw c5, 0(c4)\nset c6, 0x12345678\nbeq c5, c6, end\njmp go\nend: ret\n.export go\n",
	}
	var objs []obj.Object
	for _, name := range []string{"log", "main"} {
		o, err := asm.Assemble(name, texts[name])
		if err != nil {
			t.Fatal(err)
		}
		objs = append(objs, o)
	}
	i, err := link.Link(m, objs, 512)
	if err != nil || img.Check(i) != nil {
		t.Fatalf("P1901: %v, %v", err, img.Check(i))
	}
	for c, name := range []string{"main", "log"} {
		p, o := i.Parts[c], objs[1-c]
		if p.Name != name {
			t.Errorf("P1901: part %d is %q", c, p.Name)
		}
		for k := 0; k < len(o.Code); k += 4 {
			a, b := lowest(o.Code[k:]), lowest(i.Bytes[int(p.Code.At)+k:])
			x, wrong := code.Decode(b)
			if a != b || wrong != nil || code.Text(x) == "" {
				t.Errorf("T4: %s %d: %x, %x, %v", name, k, a, b, wrong)
			}
		}
	}
	want := []img.Init{
		{Comp: 0, At: 48, Kind: obj.Import, From: 1, Addr: 196},
		{Comp: 0, At: 64, Kind: obj.Share, Addr: 272, Perm: api.R | api.W},
		{Comp: 0, At: 96, Kind: obj.Own, Data: true, Addr: 80, Perm: api.R},
		{Comp: 0, At: 112, Kind: obj.Own, Addr: 16, Perm: api.R | api.X | api.LC},
		{Comp: 1, At: 208, Kind: obj.Share, Addr: 272, Perm: api.R},
	}
	if !slices.Equal(i.Inits, want) || i.Start != 0 || i.Addr != 16 || !slices.Equal(i.Parts[1].Entries, []uint32{196}) || len(i.Bytes) != 240 {
		t.Errorf("P1901: %s", told(i))
	}
}

// lowest answers the number that b begins with, the lowest byte first.
func lowest(b []byte) uint32 {
	return uint32(b[0]) | uint32(b[1])<<8 | uint32(b[2])<<16 | uint32(b[3])<<24
}
