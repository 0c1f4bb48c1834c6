package obj_test

import (
	"math"
	"slices"
	"strconv"
	"strings"
	"testing"

	"hasp/api"
	"hasp/obj"
)

// wrongs tells P1501's Check another way: all that is wrong with o, in order,
// each rule asked whatever the others say.
func wrongs(o obj.Object) []api.Fault {
	var all []api.Fault
	ask := func(part string, at int, of api.Errno, is bool) {
		if is {
			all = append(all, api.Fault{Part: part, At: at, Err: of})
		}
	}
	code, data := int64(len(o.Code)), int64(len(o.Data))
	ask("name", 0, api.ErrName, !aName.MatchString(o.Name))
	ask("code", int(code), api.ErrLong, code > 16384)
	ask("code", int(code), api.ErrAlign, code&3 != 0)
	ask("data", int(data), api.ErrLong, data > 16384)
	ask("data", int(data), api.ErrAlign, data&15 != 0)
	ask("syms", len(o.Syms), api.ErrLong, len(o.Syms) > 256)
	kinds := map[string]bool{}
	for i, s := range o.Syms[:min(len(o.Syms), 257)] {
		off, length := int64(s.Off), map[bool]int64{false: code, true: data}[s.Data]
		ask("sym", i, api.ErrName, !aName.MatchString(s.Name))
		ask("sym", i, api.ErrTwice, i > 0 && strings.Compare(o.Syms[max(i, 1)-1].Name, s.Name) != -1)
		ask("sym", i, api.ErrRange, off > length)
		ask("sym", i, api.ErrKind, s.Export && s.Data)
		ask("sym", i, api.ErrAlign, s.Export && off&3 != 0)
		ask("sym", i, api.ErrRange, s.Export && off == length)
		kinds[s.Name] = s.Data
	}
	ask("rels", len(o.Rels), api.ErrLong, len(o.Rels) > 256)
	for i, r := range o.Rels[:min(len(o.Rels), 257)] {
		off := int64(r.Off)
		ask("rel", i, api.ErrKind, !slices.Contains([]int{1, 2, 3}, r.Kind))
		ask("rel", i, api.ErrTwice, i > 0 && int64(o.Rels[max(i, 1)-1].Off) >= off)
		ask("rel", i, api.ErrAlign, off&15 != 0)
		ask("rel", i, api.ErrRange, off+16 > data)
		switch r.Kind {
		case 1:
			ofData, is := kinds[r.Name]
			ask("rel", i, api.ErrName, !is)
			ask("rel", i, api.ErrKind, len(r.Comp) > 0)
			ask("rel", i, api.ErrPerm, beyond(r.Perm, ofData))
		case 2:
			ask("rel", i, api.ErrName, !aName.MatchString(r.Comp) || !aName.MatchString(r.Name))
			ask("rel", i, api.ErrKind, r.Perm != 0)
		case 3:
			ask("rel", i, api.ErrName, !aName.MatchString(r.Name))
			ask("rel", i, api.ErrKind, len(r.Comp) > 0 || r.Perm != 0)
		}
	}
	return all
}

// beyond tells whether perm has what an Own of code, or of data, may not have.
func beyond(perm uint16, ofData bool) bool {
	may := []uint16{1, 4, 8}
	if ofData {
		may = []uint16{1, 2, 8, 16}
	}
	left := int(perm)
	for _, one := range may {
		if perm/one%2 == 1 {
			left -= int(one)
		}
	}
	return left != 0
}

// agrees holds Check and Encode of o against the promises, twice, and answers
// the Fault that there is.
func agrees(t *testing.T, o obj.Object) api.Fault {
	t.Helper()
	want := api.Fault{}
	if all := wrongs(o); len(all) > 0 {
		want = all[0]
	}
	for range 2 {
		if err := obj.Check(o); !same(err, want) {
			t.Fatalf("P1501: Check: %v; want %v of %s", err, &want, told(o))
		}
		b, err := obj.Encode(o)
		if !same(err, want) || err != nil && len(b) != 0 || err == nil && string(b) != encoded(o) {
			t.Fatalf("P1501: Encode: %v; want %v of %s", err, &want, told(o))
		}
	}
	return want
}

// a change makes an object another one.
type change struct {
	do   func(o *obj.Object)
	part string
	at   int
	of   error
}

// faulty answers changes of some(), each with the Fault that is behind it.
func faulty() []change {
	syms := func(n int) []obj.Sym {
		var l []obj.Sym
		for i := range n {
			l = append(l, obj.Sym{Name: "a" + strconv.Itoa(1000+i)})
		}
		return l
	}
	sym := func(i int, part func(s *obj.Sym), of error) change {
		return change{func(o *obj.Object) { part(&o.Syms[i]) }, "sym", i, of}
	}
	rel := func(i int, part func(r *obj.Rel), of error) change {
		return change{func(o *obj.Object) { part(&o.Rels[i]) }, "rel", i, of}
	}
	all := []change{
		{func(o *obj.Object) { o.Name = "" }, "name", 0, api.ErrName},
		{func(o *obj.Object) { o.Name = "9" }, "name", 0, api.ErrName},
		{func(o *obj.Object) { o.Name = "abcdefghijklmnopq" }, "name", 0, api.ErrName},
		{func(o *obj.Object) { o.Code = make([]byte, 16385) }, "code", 16385, api.ErrLong},
		{func(o *obj.Object) { o.Code = make([]byte, 16388) }, "code", 16388, api.ErrLong},
		{func(o *obj.Object) { o.Code = make([]byte, 13) }, "code", 13, api.ErrAlign},
		{func(o *obj.Object) { o.Code = make([]byte, 14) }, "code", 14, api.ErrAlign},
		{func(o *obj.Object) { o.Code = make([]byte, 16383) }, "code", 16383, api.ErrAlign},
		{func(o *obj.Object) { o.Data = make([]byte, 16385) }, "data", 16385, api.ErrLong},
		{func(o *obj.Object) { o.Data = make([]byte, 16400) }, "data", 16400, api.ErrLong},
		{func(o *obj.Object) { o.Data = make([]byte, 65) }, "data", 65, api.ErrAlign},
		{func(o *obj.Object) { o.Data = make([]byte, 72) }, "data", 72, api.ErrAlign},
		{func(o *obj.Object) { o.Data = make([]byte, 16383) }, "data", 16383, api.ErrAlign},
		{func(o *obj.Object) { o.Syms = syms(257) }, "syms", 257, api.ErrLong},
		{func(o *obj.Object) { o.Syms = make([]obj.Sym, 300) }, "syms", 300, api.ErrLong},
		sym(0, func(s *obj.Sym) { s.Name = "" }, api.ErrName),
		sym(4, func(s *obj.Sym) { s.Name = "d.e" }, api.ErrName),
		sym(4, func(s *obj.Sym) { s.Name = "d2345678901234567" }, api.ErrName),
		sym(1, func(s *obj.Sym) { s.Name = "_in" }, api.ErrTwice),
		sym(2, func(s *obj.Sym) { s.Name = "B" }, api.ErrTwice),
		sym(4, func(s *obj.Sym) { s.Name = "b9" }, api.ErrTwice),
		sym(0, func(s *obj.Sym) { s.Off = 13 }, api.ErrRange),
		sym(2, func(s *obj.Sym) { s.Off = 13 }, api.ErrRange),
		sym(2, func(s *obj.Sym) { s.Off = 64 }, api.ErrRange),
		sym(3, func(s *obj.Sym) { s.Off = 65 }, api.ErrRange),
		sym(3, func(s *obj.Sym) { s.Off = math.MaxUint32 }, api.ErrRange),
		sym(3, func(s *obj.Sym) { s.Off = 1 << 31 }, api.ErrRange),
		sym(3, func(s *obj.Sym) { s.Data = false }, api.ErrRange),
		sym(3, func(s *obj.Sym) { s.Export = true }, api.ErrKind),
		sym(4, func(s *obj.Sym) { s.Export = true }, api.ErrKind),
		sym(1, func(s *obj.Sym) { s.Data = true }, api.ErrKind),
		sym(0, func(s *obj.Sym) { s.Off = 1 }, api.ErrAlign),
		sym(0, func(s *obj.Sym) { s.Off = 2 }, api.ErrAlign),
		sym(1, func(s *obj.Sym) { s.Off = 11 }, api.ErrAlign),
		sym(0, func(s *obj.Sym) { s.Off = 12 }, api.ErrRange),
		sym(2, func(s *obj.Sym) { s.Export = true }, api.ErrRange),
		{func(o *obj.Object) { o.Rels = make([]obj.Rel, 257) }, "rels", 257, api.ErrLong},
		rel(0, func(r *obj.Rel) { r.Kind = 0 }, api.ErrKind),
		rel(3, func(r *obj.Rel) { r.Kind = 4 }, api.ErrKind),
		rel(3, func(r *obj.Rel) { r.Kind = -1 }, api.ErrKind),
		rel(1, func(r *obj.Rel) { r.Kind = 1 << 8 }, api.ErrKind),
		rel(1, func(r *obj.Rel) { r.Kind = 1<<32 + 1 }, api.ErrKind),
		rel(1, func(r *obj.Rel) { r.Kind = math.MaxInt }, api.ErrKind),
		rel(1, func(r *obj.Rel) { r.Kind = math.MinInt }, api.ErrKind),
		rel(1, func(r *obj.Rel) { r.Off = 0 }, api.ErrTwice),
		rel(2, func(r *obj.Rel) { r.Off = 16 }, api.ErrTwice),
		rel(3, func(r *obj.Rel) { r.Off = 1 }, api.ErrTwice),
		rel(0, func(r *obj.Rel) { r.Off = 1 }, api.ErrAlign),
		rel(1, func(r *obj.Rel) { r.Off = 24 }, api.ErrAlign),
		rel(3, func(r *obj.Rel) { r.Off = 63 }, api.ErrAlign),
		rel(3, func(r *obj.Rel) { r.Off = 64 }, api.ErrRange),
		rel(3, func(r *obj.Rel) { r.Off = 1<<32 - 16 }, api.ErrRange),
		rel(3, func(r *obj.Rel) { r.Off = 1 << 31 }, api.ErrRange),
		rel(0, func(r *obj.Rel) { r.Name = "x" }, api.ErrName),
		rel(0, func(r *obj.Rel) { r.Name = "" }, api.ErrName),
		rel(0, func(r *obj.Rel) { r.Name = "main" }, api.ErrName),
		rel(0, func(r *obj.Rel) { r.Comp = "main" }, api.ErrKind),
		rel(1, func(r *obj.Rel) { r.Comp = "\x00" }, api.ErrKind),
		rel(2, func(r *obj.Rel) { r.Comp = "" }, api.ErrName),
		rel(2, func(r *obj.Rel) { r.Comp = "other.f" }, api.ErrName),
		rel(2, func(r *obj.Rel) { r.Name = "" }, api.ErrName),
		rel(2, func(r *obj.Rel) { r.Name = "f2345678901234567" }, api.ErrName),
		rel(2, func(r *obj.Rel) { r.Perm = api.R }, api.ErrKind),
		rel(2, func(r *obj.Rel) { r.Perm = 1 << 15 }, api.ErrKind),
		rel(2, func(r *obj.Rel) { r.Kind = obj.Share }, api.ErrKind),
		rel(3, func(r *obj.Rel) { r.Kind = obj.Import }, api.ErrName),
		rel(3, func(r *obj.Rel) { r.Kind = obj.Own }, api.ErrName),
		rel(3, func(r *obj.Rel) { r.Name = "" }, api.ErrName),
		rel(3, func(r *obj.Rel) { r.Name = "3" }, api.ErrName),
		rel(3, func(r *obj.Rel) { r.Comp = "other" }, api.ErrKind),
		rel(3, func(r *obj.Rel) { r.Comp = "9" }, api.ErrKind),
		rel(3, func(r *obj.Rel) { r.Perm = api.R }, api.ErrKind),
		rel(3, func(r *obj.Rel) { r.Perm = 1 << 15 }, api.ErrKind),
	}
	for bit := range 16 { // what code may not have, and what data may not have
		if one := uint16(1) << bit; one != api.R && one != api.X && one != api.LC {
			all = append(all, rel(0, func(r *obj.Rel) { r.Perm = one }, api.ErrPerm), rel(0, func(r *obj.Rel) { r.Perm |= one }, api.ErrPerm))
		}
		if one := uint16(1) << bit; one != api.R && one != api.W && one != api.LC && one != api.SC {
			all = append(all, rel(1, func(r *obj.Rel) { r.Perm = one }, api.ErrPerm), rel(1, func(r *obj.Rel) { r.Perm |= one }, api.ErrPerm))
		}
	}
	return all
}

func TestFaults(t *testing.T) { // P1501, P3, P4
	for i, c := range faulty() {
		o := some()
		c.do(&o)
		if f, want := agrees(t, o), (api.Fault{Part: c.part, At: c.at, Err: c.of}); f != want {
			t.Errorf("P1501, told another way: %d: %v; want %v", i, &f, &want)
		}
	}
}

// fine answers changes of some() that Check takes.
func fine() []func(o *obj.Object) {
	all := []func(o *obj.Object){
		func(o *obj.Object) {},
		func(o *obj.Object) { *o = obj.Object{Name: "a"} },
		func(o *obj.Object) {
			*o = obj.Object{Name: "_", Code: []byte{}, Data: []byte{}, Syms: []obj.Sym{}, Rels: []obj.Rel{}}
		},
		func(o *obj.Object) { o.Name = "abcdefghijklmnop" },
		func(o *obj.Object) { o.Name = "b" },
		func(o *obj.Object) { o.Code = make([]byte, 16384) },
		func(o *obj.Object) { o.Data = make([]byte, 16384) },
		func(o *obj.Object) { o.Code = append(o.Code, 1, 2, 3, 4) },
		func(o *obj.Object) { o.Syms, o.Rels = nil, o.Rels[2:] },
		func(o *obj.Object) { o.Code, o.Syms, o.Rels = nil, o.Syms[3:], o.Rels[1:] },
		func(o *obj.Object) { o.Data, o.Syms, o.Rels = nil, o.Syms[:3], nil },
		func(o *obj.Object) { o.Code, o.Syms, o.Rels = nil, []obj.Sym{{Name: "b"}}, o.Rels[:1] },
		func(o *obj.Object) { o.Rels = nil },
		func(o *obj.Object) { o.Rels = o.Rels[:1] },
		func(o *obj.Object) { o.Rels = o.Rels[3:] },
		func(o *obj.Object) { o.Syms[2].Off = 0 },
		func(o *obj.Object) { o.Syms[2].Off = 11 },
		func(o *obj.Object) { o.Syms[3].Off = 0 },
		func(o *obj.Object) { o.Syms[1].Off = 0 },
		func(o *obj.Object) { o.Syms[4].Data, o.Rels = false, o.Rels[:1] },
		func(o *obj.Object) { o.Syms[4].Name, o.Rels[1].Name = "c0", "c0" },
		func(o *obj.Object) { o.Syms[0].Name = "A" },
		func(o *obj.Object) { o.Syms[0].Name = "Zzzzzzzzzzzzzzzz" },
		func(o *obj.Object) { o.Rels[2].Comp = "main" },
		func(o *obj.Object) { o.Rels[2].Name = "b" },
		func(o *obj.Object) { o.Rels[3].Name = "b" },
		func(o *obj.Object) { o.Rels[3].Name = "s234567890123456" },
		func(o *obj.Object) { o.Rels[3] = obj.Rel{Kind: obj.Import, Off: 48, Comp: "other", Name: "f"} },
		func(o *obj.Object) { o.Rels[2] = obj.Rel{Kind: obj.Own, Off: 32, Name: "b", Perm: api.X} },
	}
	for perm := range uint16(256) { // all but 0 of what lies in R, X, LC; in R, W, LC, SC
		if perm&^13 == 0 {
			all = append(all, func(o *obj.Object) { o.Rels[0].Perm = perm })
		}
		if perm&^27 == 0 {
			all = append(all, func(o *obj.Object) { o.Rels[1].Perm = perm })
		}
	}
	return all
}

func TestFine(t *testing.T) { // P1501, P3
	for i, do := range fine() {
		o := some()
		do(&o)
		if f := agrees(t, o); f != (api.Fault{}) {
			t.Errorf("P1501, told another way: %d: %v", i, &f)
		}
	}
}

// TestOrder: each two faults together.
func TestOrder(t *testing.T) { // P1501, P6
	all, both := faulty(), 0
	for i, a := range all {
		for k, b := range all {
			if i == k || !roomy(a) && (b.part == "sym" || b.part == "rel") {
				continue
			}
			o := some()
			a.do(&o)
			b.do(&o)
			if agrees(t, o); len(wrongs(o)) > 1 {
				both++
			}
		}
	}
	if both < 10000 {
		t.Errorf("only %d have two faults", both)
	}
}

// roomy tells whether a change leaves the Syms and Rels that others change.
func roomy(c change) bool { return c.part != "syms" && c.part != "rels" }

// TestAllRules: each Sym and each Rel of many, with what is beside them.
func TestAllRules(t *testing.T) { // P1501, P6
	o := obj.Object{Name: "x", Code: make([]byte, 8), Data: make([]byte, 32)}
	for _, ahead := range []string{"a", "b", "_", "B"} {
		for _, name := range []string{"", "a", "b", "ab", "a.", "_", "B"} {
			for _, off := range []uint32{0, 1, 2, 3, 4, 7, 8, 9, 12, 16, 31, 32, 33, 36, 1 << 30, 1<<32 - 4, 1<<32 - 1} {
				for bits := range 4 {
					o.Syms = []obj.Sym{{Name: ahead}, {Name: name, Off: off, Data: bits&1 != 0, Export: bits&2 != 0}, {Name: "a9"}}
					agrees(t, o)
					o.Syms = o.Syms[1:2]
					agrees(t, o)
				}
			}
		}
	}
	o.Syms = []obj.Sym{{Name: "c", Off: 8}, {Name: "d", Data: true, Off: 32}}
	for kind := -1; kind < 6; kind++ {
		for _, off := range []uint32{0, 1, 8, 15, 16, 17, 24, 32, 48, 1<<32 - 16, 1<<32 - 15, 1<<32 - 1} {
			for _, comp := range []string{"", "c", "q", "9", "a.b"} {
				for _, name := range []string{"", "c", "d", "e", "9", "c.d"} {
					for _, perm := range []uint16{0, 1, 2, 4, 8, 16, 32, 64, 128, 13, 27, 31, 127, 1 << 8, 1 << 15, math.MaxUint16} {
						r := obj.Rel{Kind: kind, Off: off, Comp: comp, Name: name, Perm: perm}
						o.Rels = []obj.Rel{r}
						agrees(t, o)
						o.Rels = []obj.Rel{{Kind: obj.Share, Off: 0, Name: "s"}, r}
						agrees(t, o)
					}
				}
			}
		}
	}
}

// TestAllPerms: all that a Perm can have.
func TestAllPerms(t *testing.T) { // P1501
	o, taken := some(), 0
	for perm := range 1 << 16 {
		for i := range o.Rels {
			kept := o.Rels[i].Perm
			o.Rels[i].Perm = uint16(perm)
			if obj.Check(o) == nil {
				taken++
			}
			if perm < 512 || perm > 65000 {
				agrees(t, o)
			}
			o.Rels[i].Perm = kept
		}
	}
	if taken != 8+16+1+1 {
		t.Errorf("P1501: %d Perms are taken", taken)
	}
}

// TestAllLengths: all lengths of a section, and of a list.
func TestAllLengths(t *testing.T) { // P1501
	none := make([]byte, 16500)
	for n := range len(none) {
		for _, o := range []obj.Object{{Name: "a", Code: none[:n]}, {Name: "a", Data: none[:n]}} {
			want, most := api.Fault{}, len(o.Code)+len(o.Data)
			part, piece := "code", 4
			if len(o.Data) > 0 {
				part, piece = "data", 16
			}
			if most > 16384 {
				want = api.Fault{Part: part, At: n, Err: api.ErrLong}
			} else if n%piece != 0 {
				want = api.Fault{Part: part, At: n, Err: api.ErrAlign}
			}
			if err := obj.Check(o); !same(err, want) {
				t.Fatalf("P1501: %s of %d: %v; want %v", part, n, err, &want)
			}
		}
	}
	o := great()
	o.Rels = nil
	for n := range 257 {
		x := o
		x.Syms = o.Syms[:n]
		agrees(t, x)
	}
	o = great()
	for n := range 257 {
		x := o
		x.Rels = o.Rels[:n]
		agrees(t, x)
	}
	o.Rels = append(o.Rels, o.Rels[0])
	agrees(t, o)
}

// TestByChance: objects with many changes by chance.
func TestByChance(t *testing.T) { // P1501, P1, P3
	c, bad, good := chance(15), faulty(), fine()
	parts := map[string]int{}
	for range 40000 {
		o := some()
		for range c.below(4) {
			if len(o.Syms) == 5 && len(o.Rels) == 4 {
				good[c.below(len(good))](&o)
			}
		}
		for range c.below(4) {
			if len(o.Syms) == 5 && len(o.Rels) == 4 {
				bad[c.below(len(bad))].do(&o)
			}
		}
		parts[agrees(t, o).Part]++
	}
	for _, part := range []string{"", "name", "code", "data", "syms", "sym", "rels", "rel"} {
		if parts[part] < 100 {
			t.Errorf("%q is told only %d times", part, parts[part])
		}
	}
}
