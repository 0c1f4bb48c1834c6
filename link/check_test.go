package link_test

import (
	"slices"
	"strconv"
	"strings"
	"testing"

	"hasp/api"
	"hasp/link"
	"hasp/man"
	"hasp/obj"
)

// a change makes of what may be linked what may not be, or may be, too.
type change struct {
	do   func(g *given)
	want string
}

// The places of some's objects.
const (
	logs  = 0
	as    = 1
	mains = 2
	bs    = 3
)

// exporting answers Syms that export so many places.
func exporting(n int) []obj.Sym {
	var l []obj.Sym
	for k := range n {
		l = append(l, obj.Sym{Name: "put" + strconv.Itoa(1000+k), Off: uint32(4 * k), Export: true})
	}
	return l
}

// faulty answers changes of some, each with the error that is behind it.
func faulty() []change {
	return slices.Concat(faultyManifests(), faultyObjects(), faultyComps(), faultyCounts(), faultyImports(), faultyRels(), faultyStarts(), faultySizes())
}

func faultyManifests() []change {
	return []change{
		{func(g *given) { g.m = man.Manifest{} }, "comps 0: short"},
		{func(g *given) { g.m.Comps = slices.Repeat(g.m.Comps, 3) }, "comps 12: long"},
		{func(g *given) { g.m.Comps[0].Name = "" }, "comp 0: name"},
		{func(g *given) { g.m.Comps[3].Name = "B" }, "comp 3: twice"},
		{func(g *given) { g.m.Comps[1].Stack = 8 }, "comp 1: align"},
		{func(g *given) { g.m.Comps[2].Stack = 0 }, "comp 2: over"},
		{func(g *given) { g.m.Comps[2].Stack = 4112 }, "comp 2: over"},
		{func(g *given) { g.m.Imports = slices.Repeat(g.m.Imports, 17) }, "imports 68: long"},
		{func(g *given) { g.m.Imports[1].From = "C" }, "import 1: name"},
		{func(g *given) { g.m.Imports[2].Comp = "" }, "import 2: name"},
		{func(g *given) { g.m.Imports[1].From = "A" }, "import 1: kind"},
		{func(g *given) { g.m.Imports[3] = g.m.Imports[0] }, "import 3: twice"},
		{func(g *given) { g.m.Shares = slices.Repeat(g.m.Shares, 3) }, "shares 9: long"},
		{func(g *given) { g.m.Shares[2].Size = 20 }, "share 2: align"},
		{func(g *given) { g.m.Shares[1].Size = 1<<32 - 16 }, "share 1: over"},
		{func(g *given) { g.m.Shares[1].Name = "s" }, "share 1: twice"},
		{func(g *given) { g.m.Grants[1].Share = "v" }, "grant 1: name"},
		{func(g *given) { g.m.Grants[2].Perm = api.LC }, "grant 2: perm"},
		{func(g *given) { g.m.Grants[3] = g.m.Grants[0] }, "grant 3: twice"},
		{func(g *given) { g.m.Start.From = "C" }, "start 0: name"},
		{func(g *given) { g.m.Start.Comp = "main" }, "start 0: kind"},
	}
}

func faultyObjects() []change {
	var all []change
	object := func(k int, do func(o *obj.Object), want string) {
		all = append(all, change{func(g *given) { do(&g.objs[k]) }, "object " + strconv.Itoa(k) + ": " + want})
	}
	for k := range 4 {
		for _, name := range []string{"", "9", "a.b", "_234567890abcDEFG", "main "} {
			object(k, func(o *obj.Object) { o.Name = name }, "name 0: name")
		}
		for _, name := range []string{"C", "a", "Main", "mai", "main_", "_234567890abcDEf", "s", "go", "put"} {
			object(k, func(o *obj.Object) { o.Name = name }, "name")
		}
		object(k, func(o *obj.Object) { o.Code = append(o.Code, 0) }, "code "+strconv.Itoa(len(some().objs[k].Code)+1)+": align")
		object(k, func(o *obj.Object) { o.Code = make([]byte, 16388) }, "code 16388: long")
		object(k, func(o *obj.Object) { o.Data = append(o.Data, 0, 0, 0, 0) }, "data "+strconv.Itoa(len(some().objs[k].Data)+4)+": align")
		object(k, func(o *obj.Object) { o.Data = make([]byte, 16400) }, "data 16400: long")
		object(k, func(o *obj.Object) { o.Syms = exporting(257) }, "syms 257: long")
		object(k, func(o *obj.Object) { o.Syms[0].Off = 1<<32 - 1 }, "sym 0: range")
		object(k, func(o *obj.Object) { o.Syms[0].Name = "" }, "sym 0: name")
		object(k, func(o *obj.Object) { o.Syms[0].Export, o.Syms[0].Data, o.Syms[0].Off = true, true, 0 }, "sym 0: kind")
		object(k, func(o *obj.Object) { o.Rels = make([]obj.Rel, 257) }, "rels 257: long")
		object(k, func(o *obj.Object) { o.Rels = append(o.Rels, obj.Rel{}) }, "rel "+strconv.Itoa(len(some().objs[k].Rels))+": kind")
		object(k, func(o *obj.Object) { o.Rels = []obj.Rel{{Kind: 4}} }, "rel 0: kind")
		object(k, func(o *obj.Object) { o.Rels = []obj.Rel{{Kind: obj.Own, Off: 1 << 31, Name: "go"}} }, "rel 0: range")
		all = append(all, change{func(g *given) { g.objs = append(g.objs, g.objs[k]) }, "object 4: twice"},
			change{func(g *given) { g.objs = append(g.objs, obj.Object{Name: g.objs[k].Name}) }, "object 4: twice"},
			change{func(g *given) { g.objs = append(g.objs, obj.Object{Name: "C"}) }, "object 4: name"},
			change{func(g *given) { g.objs = append(g.objs, obj.Object{Name: g.objs[k].Name, Code: []byte("abc")}) }, "object 4: code 3: align"},
			change{func(g *given) { g.objs = append(g.objs, obj.Object{}) }, "object 4: name 0: name"},
			change{func(g *given) { g.objs = slices.Insert(g.objs, k, g.objs[k]) }, "object " + strconv.Itoa(k+1) + ": twice"},
			change{func(g *given) { g.objs = append(g.objs, g.objs[k], obj.Object{Name: "C"}) }, "object 4: twice"})
		for next := k + 1; next < 4; next++ {
			all = append(all, change{func(g *given) { g.objs[next].Name = g.objs[k].Name }, "object " + strconv.Itoa(next) + ": twice"},
				change{func(g *given) { g.objs[k].Name, g.objs[next].Code = "C", nil }, "object " + strconv.Itoa(k) + ": name"},
				change{func(g *given) { g.objs[next].Name, g.objs[k].Data = "C", []byte("abc") }, "object " + strconv.Itoa(k) + ": data 3: align"})
		}
	}
	return all
}

func faultyComps() []change {
	comps := []int{logs: 2, as: 3, mains: 0, bs: 1} // whose object that is
	all := []change{
		{func(g *given) { g.objs = nil }, "comp 0: name"},
		{func(g *given) { g.objs = []obj.Object{} }, "comp 0: name"},
		{func(g *given) { g.objs = g.objs[:2] }, "comp 0: name"},
		{func(g *given) { g.objs = g.objs[2:] }, "comp 2: name"},
		{func(g *given) { g.objs = g.objs[2:3] }, "comp 1: name"},
		{func(g *given) { g.m.Comps = append(g.m.Comps, man.Comp{Name: "C", Stack: 16}) }, "comp 4: name"},
		{func(g *given) { g.m.Comps = slices.Insert(g.m.Comps, 0, man.Comp{Name: "C", Stack: 16}) }, "comp 0: name"},
		{func(g *given) {
			g.objs[mains].Code, g.objs[mains].Syms, g.objs[mains].Rels = nil, nil, nil
			g.objs = g.objs[:3]
		}, "comp 0: short"},
		{func(g *given) { g.objs[bs].Code, g.objs[bs].Syms, g.objs[logs].Name = nil, nil, "main" }, "object 2: twice"},
		{func(g *given) {
			g.objs[logs].Code, g.objs[logs].Syms, g.objs[logs].Rels = make([]byte, 260), exporting(65), nil
			g.objs = g.objs[:3]
		}, "comp 1: name"},
		{func(g *given) {
			g.objs[as].Code, g.objs[as].Syms = nil, nil
			g.objs[mains].Code, g.objs[mains].Syms, g.objs[mains].Rels = make([]byte, 260), exporting(65), nil
		}, "comp 0: long"},
	}
	for k, c := range comps {
		comp := "comp " + strconv.Itoa(c) + ": "
		all = append(all, change{func(g *given) { g.objs = slices.Delete(g.objs, k, k+1) }, comp + "name"},
			change{func(g *given) { g.objs[k].Code, g.objs[k].Syms, g.objs[k].Rels = nil, nil, nil }, comp + "short"},
			change{func(g *given) { g.objs[k].Code, g.objs[k].Syms, g.objs[k].Rels = []byte{}, []obj.Sym{{Name: "a"}}, nil }, comp + "short"})
		for _, n := range []int{65, 66, 128, 255, 256} {
			all = append(all, change{func(g *given) { g.objs[k].Code, g.objs[k].Syms, g.objs[k].Rels = make([]byte, 1024), exporting(n), nil }, comp + "long"},
				change{func(g *given) {
					g.objs[k].Code, g.objs[k].Syms, g.objs[k].Rels = make([]byte, 1024), exporting(n), nil
					slices.Reverse(g.objs[k].Syms)
					for s := range g.objs[k].Syms { // names rise, their places do not
						g.objs[k].Syms[s].Name = "put" + strconv.Itoa(1000+s)
					}
				}, comp + "long"})
		}
	}
	return all
}

func faultyCounts() []change {
	var all []change
	for k := range 4 {
		all = append(all, change{func(g *given) { more(g, k, 249); more(g, (k+1)%4, 249); more(g, (k+2)%4, 7) }, "rels 513: long"})
		for _, n := range []int{1, 2, 100, 200} {
			all = append(all, change{func(g *given) { more(g, (k+1)%4, 240); more(g, (k+2)%4, 240); more(g, k, 24+n) }, "rels " + strconv.Itoa(512+n) + ": long"})
		}
	}
	return all
}

func faultyImports() []change {
	var all []change
	for k, from := range []int{logs, mains, mains, bs} {
		first := map[int]int{logs: 0, mains: 1, bs: 3}[from]
		want := "import " + strconv.Itoa(first) + ": name"
		sym := func(do func(s *obj.Sym)) func(g *given) {
			return func(g *given) {
				for i := range g.objs[from].Syms {
					if g.objs[from].Syms[i].Name == g.m.Imports[k].Name {
						do(&g.objs[from].Syms[i])
					}
				}
			}
		}
		all = append(all, change{sym(func(s *obj.Sym) { s.Export = false }), want},
			change{sym(func(s *obj.Sym) { s.Export, s.Data, s.Off = false, true, 0 }), want},
			change{sym(func(s *obj.Sym) { s.Name += "_" }), want},
			change{func(g *given) { g.objs[from].Syms, g.objs[from].Rels = nil, nil }, want},
			change{func(g *given) {
				g.objs[from].Syms, g.objs[from].Rels = exporting(64), nil
				g.objs[from].Code = make([]byte, 256)
			}, want})
		for _, name := range []string{"none", "Put", "PUT", "pu", "put1", "main", "A", "s", "_", "v", "top", "end", "inner"} {
			all = append(all, change{func(g *given) { g.m.Imports[k].Name = name }, "import " + strconv.Itoa(k) + ": name"})
		}
	}
	return append(all,
		change{func(g *given) { g.m.Imports[0].Name = "go" }, "import 0: name"}, // one that others export
		change{func(g *given) { g.m.Imports[1].Name = "put" }, "import 1: name"},
		change{func(g *given) { g.m.Imports[1].Name, g.m.Imports[3].Name = "x", "x" }, "import 1: name"},
		change{func(g *given) {
			g.m.Imports = append(g.m.Imports, man.Import{Comp: "A", From: "main", Name: "put"}) // what nobody asks for
		}, "import 4: name"},
		change{func(g *given) { g.m.Imports = append(g.m.Imports, man.Import{Comp: "main", From: "A", Name: "go"}) }, "import 4: name"})
}

func faultyRels() []change {
	var all []change
	rel := func(object, k int, do func(r *obj.Rel), want string) {
		all = append(all, change{func(g *given) { do(&g.objs[object].Rels[k]) }, want})
	}
	for want, at := range map[string][2]int{"comp 0: rel 2: name": {mains, 2}, "comp 3: rel 0: name": {as, 0}} {
		for _, name := range []string{"get", "first", "last", "x", "Go", "main", "A", "puts"} {
			rel(at[0], at[1], func(r *obj.Rel) { r.Name = name }, want)
		}
		for _, name := range []string{"A", "C", "s", "m"} {
			rel(at[0], at[1], func(r *obj.Rel) { r.Comp = name }, want)
		}
		rel(at[0], at[1], func(r *obj.Rel) { r.Comp, r.Name = "A", "go" }, want)
		rel(at[0], at[1], func(r *obj.Rel) { r.Comp, r.Name = "B", "go" }, want)
		rel(at[0], at[1], func(r *obj.Rel) { r.Comp, r.Name = "main", "put" }, want)
		rel(at[0], at[1], func(r *obj.Rel) { r.Comp, r.Name = r.Name, r.Comp }, want)
	}
	rel(as, 0, func(r *obj.Rel) { r.Comp, r.Name = "_234567890abcDEF", "put" }, "comp 3: rel 0: name") // main's own leave
	rel(as, 0, func(r *obj.Rel) { r.Comp, r.Name = "B", "put" }, "comp 3: rel 0: name")
	rel(mains, 2, func(r *obj.Rel) { r.Comp, r.Name = "main", "go" }, "comp 0: rel 2: name")
	for want, at := range map[string][2]int{"comp 0: rel 3: ": {mains, 3}, "comp 2: rel 0: ": {logs, 0}, "comp 3: rel 1: ": {as, 1}} {
		for _, name := range []string{"v", "S", "T", "st", "main", "put", "go"} {
			rel(at[0], at[1], func(r *obj.Rel) { r.Name = name }, want+"name")
		}
		rel(at[0], at[1], func(r *obj.Rel) { r.Name = "u" }, want+"perm")
		rel(at[0], at[1], func(r *obj.Rel) { r.Name = map[string]string{"s": "t", "t": "s"}[r.Name] }, want+"perm")
		all = append(all, change{func(g *given) { g.objs[at[0]].Rels[at[1]].Name, g.m.Shares[2].Name = "u", "w" }, want + "name"})
	}
	for k, want := range map[int]string{0: "comp 3: rel 1: perm", 1: "comp 0: rel 3: perm", 2: "comp 2: rel 0: perm"} {
		all = append(all, change{func(g *given) { g.m.Grants = slices.Delete(g.m.Grants, k, k+1) }, want},
			change{func(g *given) { g.m.Grants[k].Comp = "B"; g.m.Grants = g.m.Grants[:3] }, want},
			change{func(g *given) { g.m.Grants[k].Share = "u" }, want})
	}
	for k, want := range map[int]string{0: "comp 0: rel 2: name", 1: "comp 3: rel 0: name"} {
		all = append(all, change{func(g *given) { g.m.Imports = slices.Delete(g.m.Imports, k, k+1) }, want},
			change{func(g *given) { g.m.Imports[k].Comp = "B" }, want})
	}
	return append(all,
		change{func(g *given) { g.m.Imports[0].Name = "get" }, "comp 0: rel 2: name"}, // another name of that place
		change{func(g *given) { g.m.Imports = nil }, "comp 0: rel 2: name"},
		change{func(g *given) { g.m.Grants = nil }, "comp 0: rel 3: perm"},
		change{func(g *given) { g.m.Shares, g.m.Grants = nil, nil }, "comp 0: rel 3: name"},
		change{func(g *given) { g.m.Imports, g.m.Grants = nil, nil }, "comp 0: rel 2: name"},
		change{func(g *given) { g.m.Grants, g.objs[as].Rels[0].Name = nil, "x" }, "comp 0: rel 3: perm"},
		change{func(g *given) { g.m.Grants, g.objs[mains].Rels = g.m.Grants[3:], nil }, "comp 2: rel 0: perm"},
		change{func(g *given) { g.m.Comps[0], g.m.Comps[3] = g.m.Comps[3], g.m.Comps[0]; g.m.Grants = nil }, "comp 0: rel 1: perm"})
}

func faultyStarts() []change {
	var all []change
	for _, name := range []string{"put", "end", "v", "top", "main", "x", "Go", "g", "goo", "_"} {
		all = append(all, change{func(g *given) { g.m.Start.Name = name }, "start 0: name"})
	}
	for _, from := range []string{"A", "B", "_234567890abcDEF"} {
		all = append(all, change{func(g *given) { g.m.Start.From = from }, "start 0: name"})
	}
	return append(all, change{func(g *given) { g.m.Start = man.Import{From: "_234567890abcDEF", Name: "inner"} }, "start 0: name"})
}

func faultySizes() []change {
	var all []change
	size := func(n uint32, want string) { all = append(all, change{func(g *given) { g.size = n }, want}) }
	for _, n := range []uint32{0, 1, 15, 16, 17, 256, 400, 464, 479, 480, 481, 488, 494, 495, 65537, 65544, 65551, 65552, 1 << 17, 1<<16 + 496, 1 << 31, 1<<31 + 496, 1<<32 - 16, 1<<32 - 1} {
		size(n, "size 496: range")
	}
	for _, n := range []uint32{497, 498, 500, 504, 511, 513, 1000, 1023, 65521, 65528, 65534, 65535} {
		size(n, "size 496: align")
	}
	for k, n := range []int{logs: 8, as: 4, mains: 16, bs: 16} {
		wanted := map[bool]int{true: 16848, false: 16864}[k == mains]
		all = append(all, change{func(g *given) { g.size, g.objs[k].Code = 496, append(g.objs[k].Code, make([]byte, n)...) }, "size 512: range"},
			change{func(g *given) { g.size, g.objs[k].Code = 16832, make([]byte, 16384) }, "size " + strconv.Itoa(wanted) + ": range"},
			change{func(g *given) { g.size, g.objs[k].Data = 496, append(g.objs[k].Data, make([]byte, 16)...) }, "size 512: range"},
			change{func(g *given) { g.size, g.m.Comps[k].Stack = 496, g.m.Comps[k].Stack+16 }, "size 512: range"})
	}
	for k := range 3 {
		all = append(all, change{func(g *given) { g.size, g.m.Shares[k].Size = 511, g.m.Shares[k].Size+16 }, "size 512: range"})
	}
	return append(all, change{func(g *given) { g.size, g.m.Shares = 511, append(g.m.Shares, man.Share{Name: "x", Size: 16}) }, "size 512: range"})
}

func TestFaults(t *testing.T) { // P1901, P3, P4
	for k, c := range faulty() {
		g := some()
		c.do(&g)
		fails(t, g, c.want)
		if want := agrees(t, g); want != c.want {
			t.Errorf("P1901, told another way: %d: %s; want %s", k, want, c.want)
		}
	}
}

// fine answers changes of some after which it is linked all the same.
func fine() []func(g *given) {
	all := []func(g *given){
		func(g *given) {},
		func(g *given) { g.size = 496 },
		func(g *given) { g.size = 65536 },
		func(g *given) { g.m.Imports = append(g.m.Imports, man.Import{Comp: "A", From: "main", Name: "last"}) },
		func(g *given) { g.m.Imports[0].Name, g.objs[mains].Rels[2].Name = "get", "get" },
		func(g *given) { g.m.Imports[0].Name, g.objs[mains].Rels[2].Name = "first", "first" },
		func(g *given) { g.m.Imports[3].Comp = "A" },
		func(g *given) { g.objs[mains].Rels[2].Comp = "B" },
		func(g *given) { g.objs[mains].Rels = nil },
		func(g *given) { g.objs[mains].Rels[2] = obj.Rel{Kind: obj.Own, Off: 32, Name: "go", Perm: api.X} },
		func(g *given) { g.objs[mains].Rels[4].Off = 64 },
		func(g *given) { g.m.Start.Name = "last" },
		func(g *given) { g.m.Start = man.Import{From: "B", Name: "put"} },
		func(g *given) { g.m.Start = man.Import{From: "_234567890abcDEF", Name: "get"} },
		func(g *given) { g.m.Grants = slices.Delete(g.m.Grants, 3, 4) },
		func(g *given) {
			g.m.Grants = append(g.m.Grants, man.Grant{Comp: "A", Share: "u", Perm: api.W}, man.Grant{Comp: "A", Share: "t", Perm: api.W})
		},
		func(g *given) { // names that compartments, places and shares have in common
			g.m.Shares[0].Name, g.m.Grants[0].Share, g.m.Grants[2].Share = "main", "main", "main"
			g.objs[logs].Rels[0].Name, g.objs[as].Rels[1].Name = "main", "main"
		},
		func(g *given) { g.m.Shares = g.m.Shares[:2] },
		func(g *given) { // a Sym of each that has the other's name
			g.objs[as].Syms = []obj.Sym{{Name: "go", Off: 12, Export: true}, {Name: "put", Off: 4, Export: true}}
		},
		func(g *given) { g.objs[as].Syms = nil },
		func(g *given) { g.objs[as].Data, g.objs[as].Rels = nil, nil },
		func(g *given) { // as many places as there may be, far more names of them, none of the first one
			g.objs[as].Code, g.objs[as].Syms = make([]byte, 260), nil
			for k := range 256 {
				g.objs[as].Syms = append(g.objs[as].Syms, obj.Sym{Name: "a" + strconv.Itoa(1000+k), Off: uint32(4 * (k%64 + 1)), Export: true})
			}
		},
		func(g *given) { // as many Rels as there may be
			more(g, logs, 240)
			more(g, bs, 240)
			more(g, mains, 24)
			g.size = 8560
		},
	}
	for k := range 3 { // places of four bytes and of granules
		for n := range 9 {
			all = append(all, func(g *given) { g.objs[as+k].Code = append(g.objs[as+k].Code, make([]byte, 4*n)...) },
				func(g *given) { g.objs[as+k].Data = append(g.objs[as+k].Data, make([]byte, 16*n)...) },
				func(g *given) { g.m.Comps[k].Stack += uint32(16 * n) },
				func(g *given) { g.m.Shares[k].Size += uint32(16 * n) })
		}
	}
	for off := range uint32(97) {
		all = append(all, func(g *given) { g.objs[mains].Syms[4].Off = off })
		if off <= 20 {
			all = append(all, func(g *given) { g.objs[mains].Syms[0].Off = off })
		}
		if off < 20 && off%4 == 0 {
			all = append(all, func(g *given) { g.objs[mains].Syms[1].Off = off }, func(g *given) { g.objs[mains].Syms[1].Off, g.objs[mains].Syms[2].Off = 16, off })
		}
	}
	for perm := range uint16(32) {
		if perm&^(api.R|api.X|api.LC) == 0 {
			all = append(all, func(g *given) { g.objs[mains].Rels[1].Perm = perm })
		}
		if perm&^(api.R|api.W|api.LC|api.SC) == 0 {
			all = append(all, func(g *given) { g.objs[mains].Rels[0].Perm = perm }, func(g *given) { g.objs[mains].Rels[4].Perm = perm })
		}
		for k := range 4 {
			if perm > 0 && perm <= api.R|api.W {
				all = append(all, func(g *given) { g.m.Grants[k].Perm = perm })
			}
		}
	}
	return all
}

func TestFine(t *testing.T) { // P1901, P1902, P3
	for k, do := range fine() {
		g := some()
		do(&g)
		if want := agrees(t, g); want != "" {
			t.Errorf("P1901, told another way: %d: %s", k, want)
		}
	}
}

// whole tells whether g has as much of all as some has, so that each change of
// it can be done.
func whole(g given) bool {
	was := some()
	if len(g.m.Comps) != len(was.m.Comps) || len(g.m.Imports) != len(was.m.Imports) || len(g.m.Shares) != len(was.m.Shares) || len(g.m.Grants) != len(was.m.Grants) || len(g.objs) != len(was.objs) {
		return false
	}
	for k, o := range g.objs {
		if len(o.Rels) < len(was.objs[k].Rels) || len(o.Syms) < len(was.objs[k].Syms) {
			return false
		}
	}
	return true
}

// rule tells which rule's error that is, whatever its places are.
func rule(want string) string {
	return strings.Map(func(c rune) rune {
		if '0' <= c && c <= '9' {
			return -1
		}
		return c
	}, want)
}

// TestOrder: two faults together, of all the pairs one in many, and of each
// rule's some with each other's.
func TestOrder(t *testing.T) { // P1901, P6
	all, both := faulty(), map[[2]string]int{}
	seen := map[string]int{}
	few := func(want string) bool { seen[want]++; return seen[want] <= 2 }
	var chosen []bool
	for _, c := range all {
		chosen = append(chosen, few(rule(c.want)))
	}
	for n, a := range all {
		for k, b := range all {
			if (n+k)%11 > 0 && !(chosen[n] && chosen[k]) {
				continue
			}
			g := some()
			a.do(&g)
			if !whole(g) {
				continue
			}
			b.do(&g)
			if agrees(t, g) != "" {
				both[[2]string{rule(a.want), rule(b.want)}]++
			}
		}
	}
	if len(seen) < 40 || len(both) < 1300 {
		t.Errorf("only %d rules, %d pairs", len(seen), len(both))
	}
}

// TestFirst: which of two elements of a list is told, and of which list.
func TestFirst(t *testing.T) { // P1901, P6
	for _, c := range []change{
		{func(g *given) { g.m.Start.Name, g.size = "x", 0 }, "start 0: name"},
		{func(g *given) { g.objs[as].Rels[0].Name, g.m.Start.Name, g.size = "x", "x", 0 }, "comp 3: rel 0: name"},
		{func(g *given) { g.objs[as].Rels[1].Name, g.objs[as].Rels[0].Name = "x", "x" }, "comp 3: rel 0: name"},
		{func(g *given) { g.objs[as].Rels[0].Name, g.objs[logs].Rels[0].Name = "x", "u" }, "comp 2: rel 0: perm"},
		{func(g *given) { g.objs[mains].Rels[2].Name, g.m.Imports[3].Name = "x", "x" }, "import 3: name"},
		{func(g *given) { more(g, logs, 249); more(g, as, 249); more(g, mains, 7); g.m.Imports[0].Name = "x" }, "rels 513: long"},
		{func(g *given) { more(g, logs, 249); more(g, as, 249); more(g, mains, 7); g.objs = g.objs[:3] }, "comp 1: name"},
		{func(g *given) { g.objs[as].Code, g.objs[as].Syms = nil, nil; g.m.Imports[0].Name = "x" }, "comp 3: short"},
		{func(g *given) { g.objs[bs].Name, g.objs[as].Code, g.objs[as].Syms = "C", nil, nil }, "object 3: name"},
		{func(g *given) { g.objs[bs].Name, g.objs[as].Code = "C", []byte("abc") }, "object 1: code 3: align"},
		{func(g *given) { g.objs[logs].Name, g.m.Start.From = "C", "C" }, "start 0: name"},
		{func(g *given) { g.objs[logs].Code, g.m.Grants[0].Perm = []byte("abc"), 0 }, "grant 0: perm"},
		{func(g *given) { g.objs, g.size = nil, 0 }, "comp 0: name"},
		{func(g *given) { *g = given{} }, "comps 0: short"},
	} {
		g := some()
		c.do(&g)
		fails(t, g, c.want)
		if want := agrees(t, g); want != c.want {
			t.Errorf("P1901, told another way: %s; want %s", want, c.want)
		}
	}
}

// TestAllSizes: each size up to all that is wanted, and beyond.
func TestAllSizes(t *testing.T) { // P1901, P1902
	g := some()
	for g.size = range uint32(70000) {
		i, err := link.Link(g.m, g.objs, g.size)
		want := ""
		switch {
		case g.size < 496 || g.size > 65536:
			want = "size 496: range"
		case g.size%16 != 0:
			want = "size 496: align"
		}
		if chain(err) != want || i.Size != g.size && err == nil {
			t.Fatalf("P1901: %d: %v; want %s", g.size, err, want)
		}
	}
}
