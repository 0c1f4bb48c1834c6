package man_test

import (
	"math"
	"slices"
	"strconv"
	"strings"
	"testing"

	"hasp/api"
	"hasp/man"
)

// wrongs tells P1701's Check another way: all that is wrong with m, in order,
// each rule asked whatever the others say.
func wrongs(m man.Manifest) []api.Fault {
	var all []api.Fault
	ask := func(part string, at int, of api.Errno, is bool) {
		if is {
			all = append(all, api.Fault{Part: part, At: at, Err: of})
		}
	}
	comps, shares := map[string]int{}, map[string]int{}
	imports, grants := map[man.Import]int{}, map[[2]string]int{}
	ask("comps", len(m.Comps), api.ErrShort, len(m.Comps) < 1)
	ask("comps", len(m.Comps), api.ErrLong, len(m.Comps) > 8)
	for i, c := range m.Comps {
		ask("comp", i, api.ErrName, !aName.MatchString(c.Name))
		ask("comp", i, api.ErrTwice, comps[c.Name] > 0)
		ask("comp", i, api.ErrAlign, c.Stack&15 != 0)
		ask("comp", i, api.ErrOver, c.Stack < 1 || c.Stack >= 4097)
		comps[c.Name]++
	}
	ask("imports", len(m.Imports), api.ErrLong, len(m.Imports) >= 65)
	for i, x := range m.Imports {
		ask("import", i, api.ErrName, comps[x.Comp]*comps[x.From] == 0 || !aName.MatchString(x.Name))
		ask("import", i, api.ErrKind, x.Comp == x.From)
		ask("import", i, api.ErrTwice, imports[x] > 0)
		imports[x]++
	}
	ask("shares", len(m.Shares), api.ErrLong, len(m.Shares) >= 9)
	for i, s := range m.Shares {
		ask("share", i, api.ErrName, !aName.MatchString(s.Name))
		ask("share", i, api.ErrTwice, shares[s.Name] > 0)
		ask("share", i, api.ErrAlign, s.Size&15 != 0)
		ask("share", i, api.ErrOver, s.Size < 1 || s.Size >= 4097)
		shares[s.Name]++
	}
	ask("grants", len(m.Grants), api.ErrLong, len(m.Grants) >= 65)
	for i, g := range m.Grants {
		ask("grant", i, api.ErrName, comps[g.Comp]*shares[g.Share] == 0)
		ask("grant", i, api.ErrPerm, g.Perm != 1 && g.Perm != 2 && g.Perm != 3)
		ask("grant", i, api.ErrTwice, grants[[2]string{g.Comp, g.Share}] > 0)
		grants[[2]string{g.Comp, g.Share}]++
	}
	ask("start", 0, api.ErrName, comps[m.Start.From] == 0 || !aName.MatchString(m.Start.Name))
	ask("start", 0, api.ErrKind, len(m.Start.Comp) > 0)
	return all
}

// first answers the Fault that there is of some that apply.
func first(all []api.Fault) api.Fault {
	if len(all) == 0 {
		return api.Fault{}
	}
	return all[0]
}

// agrees holds Check against the promise, twice, and Text and Parse if it has
// lines that say it. It answers the Fault that there is.
func agrees(t *testing.T, m man.Manifest) api.Fault {
	t.Helper()
	want := first(wrongs(m))
	for range 2 {
		if err := man.Check(m); !same(err, want) {
			t.Fatalf("P1701: Check: %v; want %v of %s", err, &want, told(m))
		}
	}
	if sayable(m) {
		back(t, m)
	}
	return want
}

// faulty answers changes of some(), each with the Fault that is behind it.
func faulty() []change {
	all := slices.Concat(faultyComps(), faultyImports(), faultyShares(), faultyGrants())
	start := func(part func(x *man.Import), of error) {
		all = append(all, change{func(m *man.Manifest) { part(&m.Start) }, "start", 0, of})
	}
	for _, s := range append(noNames(), "s", "comp", "b") {
		start(func(x *man.Import) { x.From = s }, api.ErrName)
	}
	for _, s := range noNames() {
		start(func(x *man.Import) { x.Name = s }, api.ErrName)
		if s != "" {
			start(func(x *man.Import) { x.Comp = s }, api.ErrKind)
		}
	}
	start(func(x *man.Import) { *x = man.Import{} }, api.ErrName)
	for _, s := range []string{"a", "A", "s", "main", " "} {
		start(func(x *man.Import) { x.Comp = s }, api.ErrKind)
	}
	return all
}

// a change makes a manifest another one.
type change struct {
	do   func(m *man.Manifest)
	part string
	at   int
	of   error
}

// noNames answers what is no obj.Name.
func noNames() []string {
	return []string{"", "9", "0a", "a.b", "a b", " a", "a ", "-", "a\n", "a\x00", "\u00e9", "a\xff", "abcdefghijklmnopq", "_234567890abcDEFg", strings.Repeat("a", 100)}
}

// noSizes answers what no stack and no share has, each with what is told of it.
func noSizes() map[uint32]error {
	return map[uint32]error{
		0: api.ErrOver, 4112: api.ErrOver, 4096 + 4096: api.ErrOver, 1 << 16: api.ErrOver, 1<<16 + 16: api.ErrOver, 1 << 31: api.ErrOver, 1<<32 - 16: api.ErrOver,
		1: api.ErrAlign, 8: api.ErrAlign, 15: api.ErrAlign, 17: api.ErrAlign, 24: api.ErrAlign, 4095: api.ErrAlign, 4097: api.ErrAlign, 5000: api.ErrAlign, 1<<31 + 1: api.ErrAlign, math.MaxUint32: api.ErrAlign,
	}
}

func faultyComps() []change {
	var all []change
	comp := func(i int, part func(c *man.Comp), of error) {
		all = append(all, change{func(m *man.Manifest) { part(&m.Comps[i]) }, "comp", i, of})
	}
	for _, n := range []int{9, 10, 64, 65, 100} {
		all = append(all, change{func(m *man.Manifest) { m.Comps = slices.Repeat(m.Comps[:1], n) }, "comps", n, api.ErrLong})
	}
	all = append(all, change{func(m *man.Manifest) { m.Comps = nil }, "comps", 0, api.ErrShort},
		change{func(m *man.Manifest) { m.Comps = []man.Comp{} }, "comps", 0, api.ErrShort},
		change{func(m *man.Manifest) { *m = man.Manifest{} }, "comps", 0, api.ErrShort})
	for _, s := range noNames() {
		comp(0, func(c *man.Comp) { c.Name = s }, api.ErrName)
		comp(2, func(c *man.Comp) { c.Name = s }, api.ErrName)
	}
	comp(1, func(c *man.Comp) { c.Name = "a" }, api.ErrTwice)
	comp(2, func(c *man.Comp) { c.Name = "a" }, api.ErrTwice)
	comp(2, func(c *man.Comp) { c.Name = "_234567890abcDEF" }, api.ErrTwice)
	for n, of := range noSizes() {
		comp(0, func(c *man.Comp) { c.Stack = n }, of)
		comp(2, func(c *man.Comp) { c.Stack = n }, of)
	}
	return all
}

func faultyImports() []change {
	var all []change
	imp := func(i int, part func(x *man.Import), of error) {
		all = append(all, change{func(m *man.Manifest) { part(&m.Imports[i]) }, "import", i, of})
	}
	for _, n := range []int{65, 66, 100} {
		all = append(all, change{func(m *man.Manifest) { m.Imports = slices.Repeat(m.Imports[:1], n) }, "imports", n, api.ErrLong})
	}
	for _, s := range append(noNames(), "s", "comp", "f", "b") {
		imp(0, func(x *man.Import) { x.Comp = s }, api.ErrName)
		imp(4, func(x *man.Import) { x.From = s }, api.ErrName)
		imp(2, func(x *man.Import) { x.Comp, x.From = s, s }, api.ErrName)
	}
	for _, s := range noNames() {
		imp(1, func(x *man.Import) { x.Name = s }, api.ErrName)
	}
	imp(0, func(x *man.Import) { x.Comp = "A" }, api.ErrKind)
	imp(1, func(x *man.Import) { x.From = "A" }, api.ErrKind)
	imp(4, func(x *man.Import) { x.Comp, x.From, x.Name = "a", "a", "a" }, api.ErrKind)
	imp(2, func(x *man.Import) { x.Name = "f" }, api.ErrTwice)
	imp(3, func(x *man.Import) { x.From = "A" }, api.ErrTwice)
	imp(4, func(x *man.Import) { *x = man.Import{Comp: "A", From: "a", Name: "f"} }, api.ErrTwice)
	imp(4, func(x *man.Import) { *x = man.Import{Comp: "a", From: "_234567890abcDEF", Name: "f"} }, api.ErrTwice)
	return all
}

func faultyShares() []change {
	var all []change
	share := func(i int, part func(s *man.Share), of error) {
		all = append(all, change{func(m *man.Manifest) { part(&m.Shares[i]) }, "share", i, of})
	}
	for _, n := range []int{9, 10, 64, 65, 100} {
		all = append(all, change{func(m *man.Manifest) { m.Shares = slices.Repeat(m.Shares[:1], n) }, "shares", n, api.ErrLong})
	}
	for _, s := range noNames() {
		share(0, func(x *man.Share) { x.Name = s }, api.ErrName)
		share(2, func(x *man.Share) { x.Name = s }, api.ErrName)
	}
	share(1, func(x *man.Share) { x.Name = "s" }, api.ErrTwice)
	share(2, func(x *man.Share) { x.Name = "s" }, api.ErrTwice)
	share(2, func(x *man.Share) { x.Name = "a" }, api.ErrTwice)
	for n, of := range noSizes() {
		share(0, func(x *man.Share) { x.Size = n }, of)
		share(2, func(x *man.Share) { x.Size = n }, of)
	}
	return all
}

func faultyGrants() []change {
	var all []change
	grant := func(i int, part func(g *man.Grant), of error) {
		all = append(all, change{func(m *man.Manifest) { part(&m.Grants[i]) }, "grant", i, of})
	}
	for _, n := range []int{65, 66, 100} {
		all = append(all, change{func(m *man.Manifest) { m.Grants = slices.Repeat(m.Grants[:1], n) }, "grants", n, api.ErrLong})
	}
	for _, s := range append(noNames(), "main", "b", "S") {
		grant(0, func(g *man.Grant) { g.Comp = s }, api.ErrName)
		grant(3, func(g *man.Grant) { g.Share = s }, api.ErrName)
	}
	grant(1, func(g *man.Grant) { g.Comp = "s" }, api.ErrName)
	grant(1, func(g *man.Grant) { g.Comp = "comp" }, api.ErrName)
	grant(1, func(g *man.Grant) { g.Share = "A" }, api.ErrName)
	grant(0, func(g *man.Grant) { g.Comp, g.Share = "s", "A" }, api.ErrName)
	for _, p := range []uint16{0, api.X, api.LC, api.SC, api.R | api.X, api.W | api.X, 7, 8, 9, 10, 11, 19, 128, 1 << 8, 1<<8 + 1, 1<<15 + 2, 1<<15 + 3, math.MaxUint16, math.MaxUint16 - 3} {
		grant(0, func(g *man.Grant) { g.Perm = p }, api.ErrPerm)
		grant(3, func(g *man.Grant) { g.Perm = p }, api.ErrPerm)
	}
	grant(1, func(g *man.Grant) { g.Share = "s" }, api.ErrTwice)
	grant(1, func(g *man.Grant) { g.Share, g.Perm = "s", api.R }, api.ErrTwice)
	grant(2, func(g *man.Grant) { g.Comp = "a" }, api.ErrTwice)
	grant(3, func(g *man.Grant) { g.Comp, g.Share = "A", "s" }, api.ErrTwice)
	grant(3, func(g *man.Grant) { g.Comp, g.Share, g.Perm = "a", "a", api.R|api.W }, api.ErrTwice)
	return all
}

func TestFaults(t *testing.T) { // P1701, P3, P4
	for i, c := range faulty() {
		m := some()
		c.do(&m)
		want := api.Fault{Part: c.part, At: c.at, Err: c.of}
		if err := man.Check(m); !same(err, want) {
			t.Errorf("P1701: %d: %v; want %v of %s", i, err, &want, told(m))
		}
		if f := agrees(t, m); f != want {
			t.Errorf("P1701, told another way: %d: %v; want %v", i, &f, &want)
		}
	}
}

// fine answers changes of some() that Check takes, and that may come together.
func fine() []func(m *man.Manifest) {
	all := []func(m *man.Manifest){
		func(m *man.Manifest) {},
		func(m *man.Manifest) { m.Imports = nil },
		func(m *man.Manifest) { m.Grants = nil },
		func(m *man.Manifest) { m.Shares, m.Grants = nil, nil },
		func(m *man.Manifest) { m.Shares, m.Grants = []man.Share{}, []man.Grant{} },
		func(m *man.Manifest) { m.Imports, m.Shares, m.Grants = []man.Import{}, nil, nil },
		func(m *man.Manifest) { *m = man.Manifest{Comps: m.Comps, Start: m.Start} },
		func(m *man.Manifest) { m.Start = man.Import{From: "_234567890abcDEF", Name: "_"} },
		func(m *man.Manifest) { m.Start = man.Import{From: "a", Name: "a"} },
		func(m *man.Manifest) { m.Start = man.Import{From: "a", Name: "main567890123456"} },
		func(m *man.Manifest) { slices.Reverse(m.Comps) },
		func(m *man.Manifest) { slices.Reverse(m.Imports) },
		func(m *man.Manifest) { slices.Reverse(m.Shares) },
		func(m *man.Manifest) { slices.Reverse(m.Grants) },
		func(m *man.Manifest) { m.Comps = append(m.Comps, man.Comp{Name: "c0", Stack: 16}) },
		func(m *man.Manifest) { m.Comps = append(m.Comps, man.Comp{Name: "start", Stack: 4080}) },
		func(m *man.Manifest) { m.Comps[0].Stack, m.Comps[1].Stack = 4096, 16 },
		func(m *man.Manifest) { m.Comps[2].Stack = 4080 },
		func(m *man.Manifest) {
			m.Imports = append(m.Imports, man.Import{Comp: "_234567890abcDEF", From: "a", Name: "import"})
		},
		func(m *man.Manifest) { m.Shares = append(m.Shares, man.Share{Name: "A", Size: 32}) },
		func(m *man.Manifest) { m.Shares = append(m.Shares, man.Share{Name: "Sh34567890123456", Size: 1024}) },
	}
	for n := uint32(16); n <= 4096; n += 16 {
		all = append(all, func(m *man.Manifest) { m.Comps[0].Stack = n })
		if n%256 == 0 {
			all = append(all, func(m *man.Manifest) {
				if len(m.Shares) > 0 {
					m.Shares[0].Size = n
				}
			})
		}
	}
	for p := range uint16(3) {
		all = append(all, func(m *man.Manifest) {
			for i := range m.Grants {
				m.Grants[i].Perm = 1 + (p+uint16(i))%3
			}
		})
	}
	return all
}

func TestFine(t *testing.T) { // P1701, P3
	for i, do := range fine() {
		m := some()
		do(&m)
		if f := agrees(t, m); f != (api.Fault{}) {
			t.Errorf("P1701, told another way: %d: %v", i, &f)
		}
		if err := man.Check(m); err != nil {
			t.Errorf("P1701: %d: %v of %s", i, err, told(m))
		}
	}
	for _, m := range []man.Manifest{
		most(),
		{Comps: []man.Comp{{Name: "a", Stack: 16}}, Start: man.Import{From: "a", Name: "a"}},
		{Comps: []man.Comp{{Name: "_", Stack: 4096}}, Shares: []man.Share{{Name: "_", Size: 16}}, Grants: []man.Grant{{Comp: "_", Share: "_", Perm: 3}}, Start: man.Import{From: "_", Name: "_"}},
	} {
		if f := agrees(t, m); f != (api.Fault{}) {
			t.Errorf("P1701, told another way: %v of %s", &f, told(m))
		}
	}
}

// TestOrder: each two faults together.
func TestOrder(t *testing.T) { // P1701, P6
	all, both := faulty(), 0
	for i, a := range all {
		for k, b := range all {
			m := some()
			if i == k || !a.fits(m) {
				continue
			}
			if a.do(&m); !b.fits(m) {
				continue
			}
			b.do(&m)
			if agrees(t, m); len(wrongs(m)) > 1 {
				both++
			}
		}
	}
	if both < 50000 {
		t.Errorf("only %d have two faults", both)
	}
}

// fits tells whether m has what c changes, and no more than it may.
func (c change) fits(m man.Manifest) bool {
	n := map[string]int{"comp": len(m.Comps), "import": len(m.Imports), "share": len(m.Shares), "grant": len(m.Grants), "start": 1}
	count, one := n[c.part]
	if !one {
		return n[strings.TrimSuffix(c.part, "s")] > 0
	}
	return c.at < count && count < 65
}

// TestAllRules: each kind of thing with all that its fields may be, beside
// others.
func TestAllRules(t *testing.T) { // P1701, P6
	names := []string{"", "a", "b", "A", "c", "s", "9", "a.b"}
	sizes := []uint32{0, 1, 15, 16, 17, 4080, 4095, 4096, 4097, 4112, 1 << 12 << 4, 1<<16 + 16, 1<<32 - 16, 1<<32 - 1}
	m := man.Manifest{
		Comps: []man.Comp{{Name: "a", Stack: 16}, {Name: "b", Stack: 16}}, Imports: []man.Import{{Comp: "a", From: "b", Name: "s"}},
		Shares: []man.Share{{Name: "s", Size: 16}, {Name: "b", Size: 16}}, Grants: []man.Grant{{Comp: "a", Share: "s", Perm: 1}},
		Start: man.Import{From: "a", Name: "s"},
	}
	seen := map[api.Fault]int{}
	check := func(change func(m *man.Manifest)) {
		x := copied(m)
		change(&x)
		seen[agrees(t, x)]++
	}
	for _, p := range names {
		for _, n := range sizes {
			check(func(m *man.Manifest) { m.Comps[0] = man.Comp{Name: p, Stack: n} })
			check(func(m *man.Manifest) { m.Comps[1] = man.Comp{Name: p, Stack: n} })
			check(func(m *man.Manifest) { m.Comps = append(m.Comps, man.Comp{Name: p, Stack: n}) })
			check(func(m *man.Manifest) { m.Shares[0] = man.Share{Name: p, Size: n} })
			check(func(m *man.Manifest) { m.Shares = append(m.Shares, man.Share{Name: p, Size: n}) })
		}
		for _, q := range names {
			for _, perm := range []uint16{0, 1, 2, 3, 4, 5, 1 << 15} {
				check(func(m *man.Manifest) { m.Grants[0] = man.Grant{Comp: p, Share: q, Perm: perm} })
				check(func(m *man.Manifest) { m.Grants = append(m.Grants, man.Grant{Comp: p, Share: q, Perm: perm}) })
			}
			for _, r := range names {
				check(func(m *man.Manifest) { m.Imports[0] = man.Import{Comp: p, From: q, Name: r} })
				check(func(m *man.Manifest) { m.Imports = append(m.Imports, man.Import{Comp: p, From: q, Name: r}) })
				check(func(m *man.Manifest) { m.Start = man.Import{Comp: p, From: q, Name: r} })
			}
		}
	}
	if len(seen) < 24 || seen[api.Fault{}] < 50 {
		t.Errorf("only %d Faults are told, none of %d", len(seen), seen[api.Fault{}])
	}
}

// TestAllPerms: all that a Perm can be.
func TestAllPerms(t *testing.T) { // P1701
	m, taken := some(), 0
	for perm := range 1 << 16 {
		m.Grants[2].Perm = uint16(perm)
		if agrees(t, m) == (api.Fault{}) {
			taken++
		}
	}
	if taken != 3 {
		t.Errorf("P1701: %d Perms are taken", taken)
	}
}

// TestAllSizes: all sizes up to twice the most.
func TestAllSizes(t *testing.T) { // P1701
	taken := 0
	for n := range uint32(8300) {
		m := some()
		m.Comps[1].Stack = n
		f := agrees(t, m)
		m = some()
		m.Shares[1].Size = n
		if g := agrees(t, m); g.Err != f.Err {
			t.Fatalf("P1701: a stack of %d: %v; a share: %v", n, &f, &g)
		}
		if f.Err == nil {
			taken++
		}
	}
	if taken != 256 {
		t.Errorf("P1701: %d sizes are taken", taken)
	}
}

// TestLimits: all counts up to the most, and one more.
func TestLimits(t *testing.T) { // P1701, limits
	for n := range 65 {
		m := most()
		m.Imports = m.Imports[:n]
		m.Grants = m.Grants[64-n:]
		if f := agrees(t, m); f != (api.Fault{}) {
			t.Errorf("P1701: %d imports, grants: %v", n, &f)
		}
	}
	for n := 1; n < 9; n++ {
		m := most()
		m.Comps, m.Imports, m.Grants = m.Comps[8-n:], nil, nil
		m.Shares = m.Shares[:n]
		if f := agrees(t, m); f != (api.Fault{}) {
			t.Errorf("P1701: %d compartments, shares: %v", n, &f)
		}
	}
	for part, more := range map[string]func(m *man.Manifest){
		"comps 9: long":    func(m *man.Manifest) { m.Comps = append(m.Comps, man.Comp{Name: "I", Stack: 16}) },
		"imports 65: long": func(m *man.Manifest) { m.Imports = append(m.Imports, man.Import{Comp: "A", From: "B", Name: "f"}) },
		"shares 9: long":   func(m *man.Manifest) { m.Shares = append(m.Shares, man.Share{Name: "I", Size: 16}) },
		"grants 65: long":  func(m *man.Manifest) { m.Grants = append(m.Grants, man.Grant{Comp: "A", Share: "A", Perm: 1}) },
	} {
		m := most()
		more(&m)
		if f := agrees(t, m); f.Error() != part {
			t.Errorf("P1701: %v; want %s", &f, part)
		}
	}
}

// TestManyByChance: manifests with many changes by chance.
func TestManyByChance(t *testing.T) { // P1701, P1, P3
	c, bad, good := chance(17), faulty(), fine()
	parts := map[string]int{}
	for range 30000 {
		m := some()
		for range c.below(4) {
			good[c.below(len(good))](&m)
		}
		for range c.below(4) {
			if b := bad[c.below(len(bad))]; b.fits(m) && len(m.Comps) > 0 && len(m.Comps) < 8 {
				b.do(&m)
			}
		}
		parts[agrees(t, m).Part]++
	}
	for _, part := range []string{"", "comps", "comp", "imports", "import", "shares", "share", "grants", "grant", "start"} {
		if parts[part] < 100 {
			t.Errorf("%q is told only %d times", part, parts[part])
		}
	}
}

// TestFar: lists and names far beyond what may be.
func TestFar(t *testing.T) { // P1701, P1
	const lots = 1 << 21
	far := func(do func(m *man.Manifest), want string) {
		m := some()
		do(&m)
		if err := man.Check(m); err == nil || err.Error() != want {
			t.Errorf("P1701: %v; want %s", err, want)
		}
		if s := man.Text(m); !strings.HasSuffix(s, "\nstart A main\n") {
			t.Errorf("P1701: Text ends with %s", short(s[max(len(s)-100, 0):]))
		}
	}
	n := strconv.Itoa(lots)
	far(func(m *man.Manifest) { m.Comps = make([]man.Comp, lots) }, "comps "+n+": long")
	far(func(m *man.Manifest) { m.Imports = make([]man.Import, lots) }, "imports "+n+": long")
	far(func(m *man.Manifest) { m.Shares = make([]man.Share, lots) }, "shares "+n+": long")
	far(func(m *man.Manifest) { m.Grants = make([]man.Grant, lots) }, "grants "+n+": long")
	long := strings.Repeat("_", lots)
	far(func(m *man.Manifest) { m.Comps[2].Name = long }, "comp 2: name")
	far(func(m *man.Manifest) { m.Imports[4].Comp = long }, "import 4: name")
	far(func(m *man.Manifest) { m.Imports[4].Name = long }, "import 4: name")
	far(func(m *man.Manifest) { m.Shares[2].Name = long }, "share 2: name")
	far(func(m *man.Manifest) { m.Grants[3].Share = long }, "grant 3: name")
}
