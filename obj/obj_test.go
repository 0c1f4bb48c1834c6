package obj_test

import (
	"errors"
	"math"
	"regexp"
	"slices"
	"strconv"
	"strings"
	"testing"

	"hasp/api"
	"hasp/obj"
)

// aName is P1501's Name told another way.
var aName = regexp.MustCompile(`^[A-Za-z_][A-Za-z_0-9]{0,15}$`)

// some answers an object that has of each what it may have, at the edges too.
func some() obj.Object {
	return obj.Object{
		Name: "main",
		Code: []byte("ABCDEFGHIJKL"),
		Data: []byte("0123456789abcdefghijklmnopqrstuvwxyz-0123456789-ABCDEFGHIJKLMNOP"),
		Syms: []obj.Sym{
			{Name: "_in", Off: 0, Export: true},
			{Name: "a", Off: 8, Export: true},
			{Name: "b", Off: 12},
			{Name: "c", Data: true, Off: 64},
			{Name: "d", Data: true, Off: 7},
		},
		Rels: []obj.Rel{
			{Kind: obj.Own, Off: 0, Name: "b", Perm: api.R | api.X | api.LC},
			{Kind: obj.Own, Off: 16, Name: "d", Perm: api.R | api.W | api.LC | api.SC},
			{Kind: obj.Import, Off: 32, Comp: "other", Name: "f"},
			{Kind: obj.Share, Off: 48, Name: "s"},
		},
	}
}

// copied answers o in memory of its own.
func copied(o obj.Object) obj.Object {
	o.Code, o.Data = slices.Clone(o.Code), slices.Clone(o.Data)
	o.Syms, o.Rels = slices.Clone(o.Syms), slices.Clone(o.Rels)
	return o
}

// alike holds two objects against each other, not asking Same.
func alike(a, b obj.Object) bool {
	if a.Name != b.Name || string(a.Code) != string(b.Code) || string(a.Data) != string(b.Data) || len(a.Syms) != len(b.Syms) || len(a.Rels) != len(b.Rels) {
		return false
	}
	for i := range a.Syms {
		if a.Syms[i] != b.Syms[i] {
			return false
		}
	}
	for i := range a.Rels {
		if a.Rels[i] != b.Rels[i] {
			return false
		}
	}
	return true
}

// told keeps what is told of an object short.
func told(o obj.Object) string {
	s := strconv.QuoteToASCII(o.Name[:min(len(o.Name), 40)]) + " code " + strconv.Itoa(len(o.Code)) + " data " + strconv.Itoa(len(o.Data)) + " syms " + strconv.Itoa(len(o.Syms)) + " rels " + strconv.Itoa(len(o.Rels))
	for _, x := range o.Syms[:min(len(o.Syms), 8)] {
		s += "\n\tsym " + strconv.QuoteToASCII(x.Name[:min(len(x.Name), 40)]) + " " + strconv.FormatBool(x.Data) + " " + strconv.FormatUint(uint64(x.Off), 10) + " " + strconv.FormatBool(x.Export)
	}
	for _, x := range o.Rels[:min(len(o.Rels), 8)] {
		s += "\n\trel " + strconv.Itoa(x.Kind) + " " + strconv.FormatUint(uint64(x.Off), 10) + " " + strconv.QuoteToASCII(x.Comp[:min(len(x.Comp), 40)]) + " " + strconv.QuoteToASCII(x.Name[:min(len(x.Name), 40)]) + " " + strconv.Itoa(int(x.Perm))
	}
	return s
}

// same tells whether err is just that Fault; a Fault of no error is none.
func same(err error, want api.Fault) bool {
	if want.Err == nil {
		return err == nil
	}
	var f *api.Fault
	return errors.As(err, &f) && f == err && *f == want && errors.Is(err, want.Err)
}

// chance answers numbers that look as by chance, the same ones each time.
type chance uint64

func (c *chance) below(n int) int {
	*c = *c*6364136223846793005 + 1442695040888963407
	return int(uint64(*c) >> 33 % uint64(n))
}

// names holds Name(s) against the promise, twice.
func names(t *testing.T, s string) {
	t.Helper()
	want := aName.MatchString(s)
	for range 2 {
		if obj.Name(s) != want {
			t.Fatalf("P1501: Name(%s): %v", strconv.QuoteToASCII(s[:min(len(s), 40)]), !want)
		}
	}
}

func TestName(t *testing.T) { // P1501, P3
	for s, want := range map[string]bool{
		"": false, "a": true, "z": true, "A": true, "Z": true, "_": true, "__": true, "a0": true, "a9": true, "_0": true, "c1": true,
		"0": false, "9": false, "0a": false, "9_": false, "1": false, " a": false, "a ": false, "a b": false, "a.b": false, "a-b": false, "a\n": false, "\na": false, "a\x00": false,
		"@": false, "[": false, "`": false, "{": false, "/": false, ":": false, "^": false, "a/": false, "a:": false,
		"\u00e9": false, "a\u00e9": false, "\u0430": false, "a\u0661": false, "a\uff11": false, "\uff41": false, "a\xff": false, "\xaa": false,
		"abcdefghijklmnop": true, "abcdefghijklmnopq": false, "_123456789012345": true, "_1234567890123456": false, "0123456789012345": false, "abcdefghijklmno.": false,
	} {
		if obj.Name(s) != want {
			t.Errorf("P1501: Name(%q): %v", s, !want)
		}
		names(t, s)
	}
	for n := range 600 {
		for _, one := range []string{"a", "Z", "_", "0", ".", "\xc3\xa9"} {
			names(t, strings.Repeat(one, n))
			names(t, "a"+strings.Repeat(one, n))
		}
	}
	names(t, strings.Repeat("a", 1<<24))
}

// TestNameOfAllBytes: each two bytes, and each byte at each place of others.
func TestNameOfAllBytes(t *testing.T) { // P1501
	for c := range 256 {
		names(t, string([]byte{byte(c)}))
		for d := range 256 {
			names(t, string([]byte{byte(c), byte(d)}))
		}
		for _, s := range []string{"abcdefghijklmnop", "_9_9_9_9_9_9_9_9", "Zz0", "abcdefghijklmnopq", "9abc"} {
			for i := range len(s) {
				names(t, s[:i]+string([]byte{byte(c)})+s[i+1:])
				names(t, s[:i]+string([]byte{byte(c)})+s[i:])
			}
		}
	}
}

// found holds Find against an answer, twice.
func found(t *testing.T, o obj.Object, name string, want obj.Sym, is bool) {
	t.Helper()
	for range 2 {
		if s, ok := obj.Find(o, name); s != want || ok != is {
			t.Errorf("P1501: Find(%q): %+v, %v; want %+v, %v", name, s, ok, want, is)
		}
	}
}

func TestFind(t *testing.T) { // P1501, P3, P4
	o := some()
	for _, s := range o.Syms {
		found(t, o, s.Name, s, true)
	}
	for _, s := range []string{"", "main", "other", "f", "s", "A", "B", "a ", " a", "aa", "_", "_i", "_inn", "in", "e", "\x00", "a\x00", "0", "c1"} {
		found(t, o, s, obj.Sym{}, false)
	}
	found(t, obj.Object{}, "", obj.Sym{}, false)
	found(t, obj.Object{Name: "a", Syms: []obj.Sym{}}, "a", obj.Sym{}, false)
	many := obj.Object{Name: "m"}
	for i := range 256 {
		many.Syms = append(many.Syms, obj.Sym{Name: "s" + strconv.Itoa(1000+i), Off: uint32(i), Data: i%2 == 0, Export: i%3 == 0})
	}
	for _, s := range many.Syms {
		found(t, many, s.Name, s, true)
	}
	found(t, many, "s999", obj.Sym{}, false)
	found(t, many, "s1256", obj.Sym{}, false)
	found(t, many, "s1000 ", obj.Sym{}, false)
}

// TestFindOfOthers: objects that Check refuses; the first of several is found.
func TestFindOfOthers(t *testing.T) { // P1, P9
	o := obj.Object{Syms: []obj.Sym{{Name: "z", Off: 1}, {Name: "a", Off: 2}, {Name: "z", Off: 3}, {Name: "", Off: 4}, {Name: "a.b", Off: 5}, {Name: "a", Off: 6}}}
	for name, off := range map[string]uint32{"z": 1, "a": 2, "a.b": 5} {
		if s, ok := obj.Find(o, name); s != (obj.Sym{Name: name, Off: off}) || !ok {
			t.Errorf("P9: Find(%q): %+v, %v", name, s, ok)
		}
	}
}

// equal holds Same against an answer, both ways round.
func equal(t *testing.T, a, b obj.Object, want bool) {
	t.Helper()
	for range 2 {
		if obj.Same(a, b) != want || obj.Same(b, a) != want {
			t.Errorf("P1501: Same is not %v of %s\nand %s", want, told(a), told(b))
		}
	}
}

// changes answers objects of which each is another one in a single thing.
func changes() []obj.Object {
	var all []obj.Object
	add := func(change func(o *obj.Object)) {
		o := some()
		change(&o)
		all = append(all, o)
	}
	for _, s := range []string{"", "mai", "main_", "Main", "naim", "main\x00"} {
		add(func(o *obj.Object) { o.Name = s })
	}
	for i := range 12 {
		add(func(o *obj.Object) { o.Code[i] ^= 1 })
	}
	for i := range 64 {
		add(func(o *obj.Object) { o.Data[i] ^= 128 })
	}
	for i := range 5 {
		add(func(o *obj.Object) { o.Syms[i].Name += "_" })
		add(func(o *obj.Object) { o.Syms[i].Data = !o.Syms[i].Data })
		add(func(o *obj.Object) { o.Syms[i].Off++ })
		add(func(o *obj.Object) { o.Syms[i].Off ^= 1 << 31 })
		add(func(o *obj.Object) { o.Syms[i].Export = !o.Syms[i].Export })
		add(func(o *obj.Object) { o.Syms = slices.Delete(o.Syms, i, i+1) })
		add(func(o *obj.Object) { o.Syms = slices.Insert(o.Syms, i, o.Syms[i]) })
		add(func(o *obj.Object) { o.Syms[i], o.Syms[(i+1)%5] = o.Syms[(i+1)%5], o.Syms[i] })
	}
	for i := range 4 {
		add(func(o *obj.Object) { o.Rels[i].Kind += 3 })
		add(func(o *obj.Object) { o.Rels[i].Off++ })
		add(func(o *obj.Object) { o.Rels[i].Off ^= 1 << 31 })
		add(func(o *obj.Object) { o.Rels[i].Comp += "_" })
		add(func(o *obj.Object) { o.Rels[i].Name += "_" })
		add(func(o *obj.Object) { o.Rels[i].Perm ^= 1 })
		add(func(o *obj.Object) { o.Rels[i].Perm ^= 1 << 15 })
		add(func(o *obj.Object) { o.Rels = slices.Delete(o.Rels, i, i+1) })
		add(func(o *obj.Object) { o.Rels = slices.Insert(o.Rels, i, o.Rels[i]) })
	}
	add(func(o *obj.Object) { o.Rels[1], o.Rels[3] = o.Rels[3], o.Rels[1] })
	add(func(o *obj.Object) { o.Code, o.Data = o.Data, o.Code })
	add(func(o *obj.Object) { o.Code = o.Code[:11] })
	add(func(o *obj.Object) { o.Code = append(o.Code, 0) })
	add(func(o *obj.Object) { o.Data = o.Data[:48] })
	add(func(o *obj.Object) { o.Data = append(o.Data, make([]byte, 16)...) })
	add(func(o *obj.Object) { o.Code = nil })
	add(func(o *obj.Object) { o.Data = nil })
	add(func(o *obj.Object) { o.Syms = nil })
	add(func(o *obj.Object) { o.Rels = nil })
	return all
}

func TestSame(t *testing.T) { // P1501, P3
	equal(t, some(), some(), true)
	all := changes()
	for i, o := range all {
		equal(t, o, some(), false)
		equal(t, o, copied(o), true)
		for _, other := range all[:i] {
			if obj.Same(o, other) != alike(o, other) || obj.Same(other, o) != alike(o, other) {
				t.Errorf("P1501: Same of %s\nand %s", told(o), told(other))
			}
		}
	}
	empty := obj.Object{Code: []byte{}, Data: []byte{}, Syms: []obj.Sym{}, Rels: []obj.Rel{}}
	equal(t, empty, obj.Object{}, true)
	equal(t, empty, obj.Object{Name: "a"}, false)
	equal(t, obj.Object{Name: "a", Code: []byte{}}, obj.Object{Name: "a", Rels: []obj.Rel{}}, true)
	equal(t, obj.Object{Code: []byte{0}}, obj.Object{}, false)
	equal(t, obj.Object{Code: []byte{0}}, obj.Object{Data: []byte{0}}, false)
	equal(t, obj.Object{Syms: []obj.Sym{{}}}, obj.Object{}, false)
	equal(t, obj.Object{Syms: []obj.Sym{{}}}, obj.Object{Syms: []obj.Sym{{}, {}}}, false)
	equal(t, obj.Object{Rels: []obj.Rel{{}}}, obj.Object{}, false)
	equal(t, obj.Object{Rels: []obj.Rel{{}}}, obj.Object{Rels: []obj.Rel{{}, {}}}, false)
	room := some()
	room.Code, room.Data = append(room.Code, 9)[:12], append(room.Data, 9)[:64]
	room.Syms, room.Rels = append(room.Syms, obj.Sym{Name: "z"})[:5], append(room.Rels, obj.Rel{Kind: 9})[:4]
	equal(t, room, some(), true)
}

// great answers an object that has the most of all.
func great() obj.Object {
	o := obj.Object{Name: "ABCDEFGHIJKLMNOP", Code: make([]byte, 16384), Data: make([]byte, 16384)}
	for i := range o.Code {
		o.Code[i], o.Data[i] = byte(i*7), byte(i>>8)
	}
	for i := range 256 {
		o.Syms = append(o.Syms, obj.Sym{Name: "_23456789012_" + strconv.Itoa(100+i), Off: uint32(64 * i), Data: i%3 == 0, Export: i%3 == 1})
		r := obj.Rel{Kind: 1 + i%3, Off: uint32(64*i + 48), Name: "_23456789012_" + strconv.Itoa(355-i)}
		if r.Kind == obj.Import {
			r.Comp = "Z234567890123456"
		}
		if r.Kind == obj.Own {
			r.Perm = api.LC
		}
		o.Rels = append(o.Rels, r)
	}
	o.Syms[0].Off, o.Syms[254].Off = 16384, 16384
	o.Syms[254].Export = false
	return o
}

// TestGreat: the most that is taken, and far more than that.
func TestGreat(t *testing.T) { // P1501, P1
	o := great()
	agrees(t, o)
	b, err := obj.Encode(o)
	if err != nil {
		t.Fatalf("P1501: %v", err)
	}
	decodes(t, b)
	many := func(change func(o *obj.Object)) {
		x := copied(o)
		change(&x)
		agrees(t, x)
		equal(t, x, o, false)
		equal(t, x, copied(x), true)
		obj.Find(x, "none")
	}
	const lots = 1 << 20
	many(func(o *obj.Object) { o.Name = strings.Repeat("a", lots) })
	many(func(o *obj.Object) { o.Code = make([]byte, lots) })
	many(func(o *obj.Object) { o.Data = make([]byte, lots) })
	many(func(o *obj.Object) { o.Syms = slices.Repeat(o.Syms, lots/256) })
	many(func(o *obj.Object) { o.Rels = slices.Repeat(o.Rels, lots/256) })
	many(func(o *obj.Object) {
		o.Syms, o.Rels = slices.Repeat(o.Syms, lots/256), slices.Repeat(o.Rels, lots/256)
	})
	many(func(o *obj.Object) { o.Syms[255].Name = strings.Repeat("_", lots) })
	many(func(o *obj.Object) { o.Rels[2].Name = strings.Repeat("_", lots) })
	many(func(o *obj.Object) { o.Rels[1].Comp = strings.Repeat("_", lots) })
	many(func(o *obj.Object) { o.Rels[0].Comp = strings.Repeat("_", lots) })
	many(func(o *obj.Object) { o.Rels[255].Off = math.MaxUint32 })
}
