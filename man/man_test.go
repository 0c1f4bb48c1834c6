package man_test

import (
	"errors"
	"regexp"
	"slices"
	"strconv"
	"strings"
	"testing"

	"hasp/api"
	"hasp/man"
)

// aName is obj.Name told another way.
var aName = regexp.MustCompile(`^[A-Za-z_][A-Za-z_0-9]{0,15}$`)

// some answers a manifest that has of each what it may have, at the edges too:
// names of 1 and of 16 bytes, sizes of 16 and of 4096, a share that is called as
// a compartment is, imports and grants that are alike in all but one thing.
func some() man.Manifest {
	return man.Manifest{
		Comps: []man.Comp{{Name: "a", Stack: 16}, {Name: "_234567890abcDEF", Stack: 4096}, {Name: "A", Stack: 48}},
		Imports: []man.Import{
			{Comp: "a", From: "A", Name: "f"},
			{Comp: "A", From: "a", Name: "f"},
			{Comp: "a", From: "A", Name: "F"},
			{Comp: "a", From: "_234567890abcDEF", Name: "f"},
			{Comp: "_234567890abcDEF", From: "A", Name: "g234567890123456"},
		},
		Shares: []man.Share{{Name: "s", Size: 4096}, {Name: "a", Size: 16}, {Name: "comp", Size: 2048}},
		Grants: []man.Grant{
			{Comp: "a", Share: "s", Perm: api.R},
			{Comp: "a", Share: "a", Perm: api.W},
			{Comp: "A", Share: "s", Perm: api.R | api.W},
			{Comp: "_234567890abcDEF", Share: "comp", Perm: api.R},
		},
		Start: man.Import{From: "A", Name: "main"},
	}
}

// written is some(), line by line.
var written = []string{
	"comp a 16\n", "comp _234567890abcDEF 4096\n", "comp A 48\n",
	"import a A f\n", "import A a f\n", "import a A F\n", "import a _234567890abcDEF f\n", "import _234567890abcDEF A g234567890123456\n",
	"share s 4096\n", "share a 16\n", "share comp 2048\n",
	"grant a s r\n", "grant a a w\n", "grant A s rw\n", "grant _234567890abcDEF comp r\n",
	"start A main\n",
}

// most answers a manifest that has as much of all as may be.
func most() man.Manifest {
	m := man.Manifest{Start: man.Import{From: "H234567890123456", Name: "m234567890123456"}}
	name := func(i int) string { return string("ABCDEFGH"[i]) + "234567890123456" }
	for i := range 8 {
		m.Comps = append(m.Comps, man.Comp{Name: name(i), Stack: uint32(4096 - 16*i)})
		m.Shares = append(m.Shares, man.Share{Name: name(7 - i), Size: uint32(16 + 16*i)})
		for k := range 8 {
			m.Imports = append(m.Imports, man.Import{Comp: name(i), From: name((i + 1 + k%7) % 8), Name: "f" + strconv.Itoa(k/7)})
			m.Grants = append(m.Grants, man.Grant{Comp: name(k), Share: name(i), Perm: uint16(1 + (i+k)%3)})
		}
	}
	return m
}

// copied answers m in memory of its own.
func copied(m man.Manifest) man.Manifest {
	m.Comps, m.Imports = slices.Clone(m.Comps), slices.Clone(m.Imports)
	m.Shares, m.Grants = slices.Clone(m.Shares), slices.Clone(m.Grants)
	return m
}

// alike holds two manifests against each other.
func alike(a, b man.Manifest) bool {
	return slices.Equal(a.Comps, b.Comps) && slices.Equal(a.Imports, b.Imports) &&
		slices.Equal(a.Shares, b.Shares) && slices.Equal(a.Grants, b.Grants) && a.Start == b.Start
}

// texts answers all texts of m but Start.Comp, which no line has.
func texts(m man.Manifest) []string {
	l := []string{m.Start.From, m.Start.Name}
	for _, x := range m.Comps {
		l = append(l, x.Name)
	}
	for _, x := range m.Imports {
		l = append(l, x.Comp, x.From, x.Name)
	}
	for _, x := range m.Shares {
		l = append(l, x.Name)
	}
	for _, x := range m.Grants {
		l = append(l, x.Comp, x.Share)
	}
	return l
}

// same tells whether err is just that Fault; a Fault of no error is none.
func same(err error, want api.Fault) bool {
	if want.Err == nil {
		return err == nil
	}
	var f *api.Fault
	return errors.As(err, &f) && f == err && *f == want && errors.Is(err, want.Err)
}

// short keeps what is told of a text short.
func short(s string) string {
	if len(s) > 600 {
		return strconv.QuoteToASCII(s[:600]) + ".. of " + strconv.Itoa(len(s)) + " bytes"
	}
	return strconv.QuoteToASCII(s)
}

// told keeps what is told of a manifest short: at most five of each list.
func told(m man.Manifest) string {
	var all []string
	add := func(words ...string) { all = append(all, strings.Join(words, " ")) }
	for _, x := range m.Comps[:min(len(m.Comps), 5)] {
		add("comp", short(x.Name), strconv.Itoa(int(x.Stack)))
	}
	for _, x := range m.Imports[:min(len(m.Imports), 5)] {
		add("import", short(x.Comp), short(x.From), short(x.Name))
	}
	for _, x := range m.Shares[:min(len(m.Shares), 5)] {
		add("share", short(x.Name), strconv.Itoa(int(x.Size)))
	}
	for _, x := range m.Grants[:min(len(m.Grants), 5)] {
		add("grant", short(x.Comp), short(x.Share), strconv.Itoa(int(x.Perm)))
	}
	add("start", short(m.Start.Comp), short(m.Start.From), short(m.Start.Name))
	return strings.Join(all, "; ")
}

// chance answers numbers that look as by chance, the same ones each time.
type chance uint64

func (c *chance) below(n int) int {
	*c = *c*6364136223846793005 + 1442695040888963407
	return int(uint64(*c) >> 33 % uint64(n))
}

// indexed holds Index against an answer, twice.
func indexed(t *testing.T, m man.Manifest, name string, want int) {
	t.Helper()
	for range 2 {
		if i := man.Index(m, name); i != want {
			t.Errorf("P1701: Index(%s, %s): %d; want %d", told(m), short(name), i, want)
		}
	}
}

func TestIndex(t *testing.T) { // P1701, P3
	m := some()
	for i, c := range m.Comps {
		indexed(t, m, c.Name, i)
	}
	for _, s := range []string{"", "s", "comp", "f", "main", "b", "aa", "a ", " a", "_", "_234567890abcDE", "_234567890abcDEFg", "_234567890abcdef", "a\x00", "0", "-1"} {
		indexed(t, m, s, -1)
	}
	indexed(t, man.Manifest{}, "", -1)
	indexed(t, man.Manifest{Comps: []man.Comp{}, Start: man.Import{Comp: "a", From: "a", Name: "a"}}, "a", -1)
	m = most()
	for i, c := range m.Comps {
		indexed(t, m, c.Name, i)
	}
}

// TestIndexOfOthers: manifests that Check refuses; of several the first one.
func TestIndexOfOthers(t *testing.T) { // P1, P9
	m := man.Manifest{Comps: []man.Comp{{Name: "z"}, {Name: "a", Stack: 5}, {Name: "z", Stack: 16}, {Name: ""}, {Name: "a.b"}, {Name: "a"}}}
	for name, want := range map[string]int{"z": 0, "a": 1, "": 3, "a.b": 4, "b": -1} {
		indexed(t, m, name, want)
	}
	m.Comps = slices.Repeat(m.Comps[:3], 1<<16)
	m.Comps = append(m.Comps, man.Comp{Name: "last"})
	indexed(t, m, "z", 0)
	indexed(t, m, "last", 3<<16)
}
