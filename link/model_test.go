package link_test

import (
	"maps"
	"slices"
	"strconv"
	"testing"

	"hasp/api"
	"hasp/img"
	"hasp/link"
	"hasp/man"
	"hasp/obj"
)

// rules gathers all that is wrong with what Link is handed, in order, each rule
// asked whatever the others say. The manifest and the objects are asked by their
// own packages, as the promise has it.
type rules struct {
	g   given
	all []string
}

func (r *rules) ask(is bool, of api.Errno, part string, at int, more ...any) {
	s := part + " " + strconv.Itoa(at) + ": "
	if len(more) > 0 {
		s += more[0].(string) + " " + strconv.Itoa(more[1].(int)) + ": "
	}
	if is {
		r.all = append(r.all, s+of.Error())
	}
}

// wrongs tells P1901's errors another way.
func wrongs(g given) []string {
	r := &rules{g: g}
	if err := man.Check(g.m); err != nil {
		return []string{err.Error()} // what follows may be a great many
	}
	if r.objects(); len(r.all) > 0 {
		return r.all
	}
	r.comps()
	all := 0
	for _, o := range g.objs {
		all += len(o.Rels)
	}
	r.ask(all >= 513, api.ErrLong, "rels", all)
	for k, x := range g.m.Imports {
		r.ask(!r.exported(x.From, x.Name), api.ErrName, "import", k)
	}
	if len(r.all) > 0 {
		return r.all
	}
	r.rels()
	r.ask(!r.exported(g.m.Start.From, g.m.Start.Name), api.ErrName, "start", 0)
	r.size()
	return r.all
}

func (r *rules) objects() {
	comps, seen := map[string]int{}, map[string]int{}
	for _, c := range r.g.m.Comps {
		comps[c.Name]++
	}
	for k, o := range r.g.objs {
		if err := obj.Check(o); err != nil {
			r.all = append(r.all, "object "+strconv.Itoa(k)+": "+err.Error())
		}
		seen[o.Name]++
		r.ask(comps[o.Name] == 0, api.ErrName, "object", k)
		r.ask(seen[o.Name] > 1, api.ErrTwice, "object", k)
		if len(r.all) > 0 {
			return
		}
	}
}

func (r *rules) comps() {
	for c, x := range r.g.m.Comps {
		of := r.of(x.Name)
		r.ask(len(of) == 0, api.ErrName, "comp", c)
		for _, o := range of {
			places := map[uint32]int{}
			for _, s := range o.Syms {
				if s.Export {
					places[s.Off]++
				}
			}
			r.ask(string(o.Code) == "", api.ErrShort, "comp", c)
			r.ask(len(places) >= 65, api.ErrLong, "comp", c)
		}
	}
}

// of answers the objects that are called so.
func (r *rules) of(name string) []obj.Object {
	return slices.DeleteFunc(slices.Clone(r.g.objs), func(o obj.Object) bool { return o.Name != name })
}

func (r *rules) exported(from, name string) bool {
	n := 0
	for _, o := range r.of(from) {
		for _, s := range o.Syms {
			if s.Name == name && s.Export {
				n++
			}
		}
	}
	return n > 0
}

func (r *rules) rels() {
	imports, shares, grants := map[man.Import]int{}, map[string]int{}, map[[2]string]int{}
	for _, x := range r.g.m.Imports {
		imports[x]++
	}
	for _, x := range r.g.m.Shares {
		shares[x.Name]++
	}
	for _, x := range r.g.m.Grants {
		grants[[2]string{x.Comp, x.Share}]++
	}
	for c, x := range r.g.m.Comps {
		for _, o := range r.of(x.Name) {
			for k, rel := range o.Rels {
				called := man.Import{Comp: x.Name, From: rel.Comp, Name: rel.Name}
				r.ask(rel.Kind == 2 && imports[called] == 0, api.ErrName, "comp", c, "rel", k)
				r.ask(rel.Kind == 3 && shares[rel.Name] == 0, api.ErrName, "comp", c, "rel", k)
				r.ask(rel.Kind == 3 && grants[[2]string{x.Name, rel.Name}] == 0, api.ErrPerm, "comp", c, "rel", k)
			}
		}
	}
}

func (r *rules) size() {
	wanted, size := len(laid(r.g).memory), int64(r.g.size)
	r.ask(int64(wanted) > size, api.ErrRange, "size", wanted)
	r.ask(size >= 65537, api.ErrRange, "size", wanted)
	r.ask(size&15 != 0, api.ErrAlign, "size", wanted)
}

// place is where a symbol lies.
type place struct {
	data bool
	at   uint32
}

// layout is a memory that grows by what is laid behind it, and what lies there.
type layout struct {
	memory  []byte
	image   img.Image
	symbols map[[2]string]place
	shares  map[string]int
	end     int // of the last Data
}

func (l *layout) lay(b []byte) img.Span {
	at := len(l.memory)
	l.memory = append(l.memory, b...)
	for len(l.memory)&15 != 0 {
		l.memory = append(l.memory, 0)
	}
	return img.Span{At: uint32(at), Size: uint32(len(l.memory) - at)}
}

// laid tells P1901's layout another way, of what may be linked.
func laid(g given) *layout {
	l := &layout{memory: make([]byte, 16), symbols: map[[2]string]place{}, shares: map[string]int{}}
	for _, c := range g.m.Comps {
		for _, o := range g.objs {
			if o.Name == c.Name {
				l.part(c, o)
			}
		}
	}
	for k, s := range g.m.Shares {
		l.shares[s.Name] = k
		l.image.Shares = append(l.image.Shares, l.lay(make([]byte, s.Size)))
	}
	return l
}

func (l *layout) part(c man.Comp, o obj.Object) {
	p := img.Part{Name: c.Name}
	p.Code = l.lay(o.Code)
	p.Data = l.lay(o.Data)
	l.end = len(l.memory)
	p.Stack = l.lay(make([]byte, c.Stack))
	entries := map[uint32]place{}
	for _, s := range o.Syms {
		to := place{false, p.Code.At + s.Off}
		if s.Data {
			to = place{true, p.Data.At + s.Off}
		}
		l.symbols[[2]string{c.Name, s.Name}] = to
		if s.Export {
			entries[to.at] = to
		}
	}
	p.Entries = slices.Sorted(maps.Keys(entries))
	l.image.Parts = append(l.image.Parts, p)
}

// linkedToo tells P1901's image another way, of what may be linked.
func linkedToo(g given) img.Image {
	l := laid(g)
	i := l.image
	comps := map[string]int{}
	for k, c := range g.m.Comps {
		comps[c.Name] = k
	}
	for k, c := range g.m.Comps {
		for _, o := range g.objs {
			for _, r := range o.Rels {
				if o.Name != c.Name {
					continue
				}
				x := img.Init{Comp: k, At: r.Off + i.Parts[k].Data.At, Kind: r.Kind}
				if r.Kind == 1 {
					to := l.symbols[[2]string{c.Name, r.Name}]
					x.Data, x.Addr, x.Perm = to.data, to.at, r.Perm
				}
				if r.Kind == 2 {
					x.From, x.Addr = comps[r.Comp], l.symbols[[2]string{r.Comp, r.Name}].at
				}
				for _, grant := range g.m.Grants {
					if r.Kind == 3 && grant.Share == r.Name && grant.Comp == c.Name {
						x.From, x.Addr, x.Perm = l.shares[r.Name], i.Shares[l.shares[r.Name]].At, grant.Perm
					}
				}
				i.Inits = append(i.Inits, x)
			}
		}
	}
	i.Size, i.Bytes = g.size, l.memory[:l.end]
	i.Start, i.Addr = comps[g.m.Start.From], l.symbols[[2]string{g.m.Start.From, g.m.Start.Name}].at
	return i
}

// agrees holds Link of g against the promises, twice, and answers the error that
// there is.
func agrees(t *testing.T, g given) string {
	t.Helper()
	if all := wrongs(g); len(all) > 0 {
		fails(t, g, all[0])
		return all[0]
	}
	links(t, g, linkedToo(g))
	return ""
}

// chanced answers a system by chance; at most one thing in it is wrong, now and
// then.
func chanced(c *chance) given {
	var g given
	for k := range 1 + c.below(8) {
		o := obj.Object{Name: "c" + strconv.Itoa(k), Code: letters(c, 4+4*c.below(20)), Data: letters(c, 16*c.below(8))}
		g.m.Comps = append(g.m.Comps, man.Comp{Name: o.Name, Stack: uint32(16 + 16*c.below(6))})
		for s := range 1 + c.below(8) {
			x := obj.Sym{Name: "s" + strconv.Itoa(s), Data: s > 0 && c.below(3) == 0}
			if n := len(o.Code); x.Data {
				x.Off = uint32(c.below(len(o.Data) + 1))
			} else if x.Export = s == 0 || c.below(2) == 0; x.Export {
				x.Off = uint32(4 * c.below(n/4))
			} else {
				x.Off = uint32(c.below(n + 1))
			}
			o.Syms = append(o.Syms, x)
		}
		g.objs = append(g.objs, o)
	}
	for k := range c.below(9) {
		g.m.Shares = append(g.m.Shares, man.Share{Name: "s" + strconv.Itoa(k), Size: uint32(16 + 16*c.below(6))})
	}
	for k := range g.objs {
		g.chanceRels(c, k)
	}
	from := g.objs[c.below(len(g.objs))]
	g.m.Start = man.Import{From: from.Name, Name: export(c, from)}
	for k := range g.objs {
		other := c.below(k + 1)
		g.objs[k], g.objs[other] = g.objs[other], g.objs[k]
	}
	g.size = uint32(len(laid(g).memory) + 16*c.below(4))
	return g
}

// chanceRels puts Rels into the k-th object, and into the manifest what they
// need.
func (g *given) chanceRels(c *chance, k int) {
	o := &g.objs[k]
	for off := uint32(0); off < uint32(len(o.Data)); off += uint32(16 + 16*c.below(2)) {
		r := obj.Rel{Kind: 1 + c.below(3), Off: off}
		other := g.objs[c.below(len(g.objs))]
		switch {
		case r.Kind == obj.Import && other.Name != o.Name:
			r.Comp, r.Name = other.Name, export(c, other)
			if x := (man.Import{Comp: o.Name, From: r.Comp, Name: r.Name}); !slices.Contains(g.m.Imports, x) {
				g.m.Imports = append(g.m.Imports, x)
			}
		case r.Kind == obj.Share && len(g.m.Shares) > 0:
			r.Name = g.m.Shares[c.below(len(g.m.Shares))].Name
			if !slices.ContainsFunc(g.m.Grants, func(x man.Grant) bool { return x.Comp == o.Name && x.Share == r.Name }) {
				g.m.Grants = append(g.m.Grants, man.Grant{Comp: o.Name, Share: r.Name, Perm: uint16(1 + c.below(3))})
			}
		default:
			s := o.Syms[c.below(len(o.Syms))]
			r.Kind, r.Name = obj.Own, s.Name
			r.Perm = []uint16{0, api.R, api.LC, api.R | api.LC}[c.below(4)]
		}
		o.Rels = append(o.Rels, r)
	}
}

func letters(c *chance, n int) []byte {
	b := make([]byte, n)
	for k := range b {
		b[k] = byte('a' + c.below(26))
	}
	return b
}

// export answers a name that o exports.
func export(c *chance, o obj.Object) string {
	for {
		if s := o.Syms[c.below(len(o.Syms))]; s.Export {
			return s.Name
		}
	}
}

// TestMany: systems by chance, and each of them with something changed.
func TestMany(t *testing.T) { // P1901, P1902
	c := chance(19)
	seen := map[string]int{}
	for range 3000 {
		g := chanced(&c)
		if wrong := agrees(t, g); wrong != "" {
			t.Fatalf("P1901, told another way: %s", wrong)
		}
		i, err := link.Link(g.m, g.objs, g.size)
		if err != nil || len(i.Inits) > 0 && i.Inits[0].Comp == 0 {
			seen["init"]++
		}
		disturb(&c, &g)
		seen[agrees(t, g)]++
	}
	if len(seen) < 150 || seen[""] < 100 || seen["init"] < 1000 {
		t.Errorf("only %d errors are told, none of %d", len(seen), seen[""])
	}
}

// disturb changes something of g.
func disturb(c *chance, g *given) {
	k := c.below(len(g.objs))
	o := &g.objs[k]
	switch c.below(12) {
	case 0:
		g.objs = slices.Delete(g.objs, k, k+1)
	case 1:
		o.Name = g.objs[c.below(len(g.objs))].Name
	case 2:
		o.Name = "c" + strconv.Itoa(c.below(12))
	case 3:
		s := &o.Syms[c.below(len(o.Syms))]
		s.Export = !s.Export && !s.Data
	case 4:
		o.Code, o.Syms, o.Rels = nil, nil, nil
	case 5:
		g.m.Start.Name = "s" + strconv.Itoa(c.below(9))
	case 6:
		g.size = uint32(c.below(int(g.size) * 2))
	case 7:
		if len(g.m.Grants) > 0 {
			g.m.Grants = g.m.Grants[1:]
		}
	case 8:
		if len(g.m.Imports) > 0 {
			g.m.Imports = g.m.Imports[1:]
		}
	case 9:
		if len(g.m.Shares) > 0 {
			g.m.Shares, g.m.Grants = g.m.Shares[1:], slices.DeleteFunc(g.m.Grants, func(x man.Grant) bool { return x.Share == g.m.Shares[0].Name })
		}
	case 10:
		if len(o.Rels) > 0 {
			r := &o.Rels[c.below(len(o.Rels))]
			r.Name = "s" + strconv.Itoa(c.below(9))
		}
	case 11:
		if len(g.m.Imports) > 0 {
			g.m.Imports[c.below(len(g.m.Imports))].Name = "s" + strconv.Itoa(c.below(9))
		}
	}
}
