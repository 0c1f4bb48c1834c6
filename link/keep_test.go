package link_test

import (
	"errors"
	"slices"
	"strconv"
	"strings"
	"sync"
	"testing"
	"unsafe"

	"hasp/api"
	"hasp/img"
	"hasp/link"
	"hasp/man"
	"hasp/obj"
)

// a piece is some memory.
type piece struct {
	of         string
	begin, end uintptr
}

// room tells where a slice lies, its spare room too.
func room[T any](of string, s []T) piece {
	var one T
	begin := uintptr(unsafe.Pointer(unsafe.SliceData(s)))
	return piece{of, begin, begin + uintptr(cap(s))*unsafe.Sizeof(one)}
}

// word tells where a string lies.
func word(of, s string) piece {
	begin := uintptr(unsafe.Pointer(unsafe.StringData(s)))
	return piece{of, begin, begin + uintptr(len(s))}
}

// apart fails if two of some pieces share any of their memory.
func apart(t *testing.T, all []piece) {
	t.Helper()
	for k, p := range all {
		for _, q := range all[:k] {
			if p.begin < q.end && q.begin < p.end {
				t.Errorf("P2: %s shares memory with %s", p.of, q.of)
			}
		}
	}
}

// answered tells where the lists and the names of an image lie.
func answered(of string, i img.Image) []piece {
	all := []piece{room(of+" Parts", i.Parts), room(of+" Shares", i.Shares), room(of+" Inits", i.Inits), room(of+" Bytes", i.Bytes)}
	for k, p := range i.Parts {
		all = append(all, room(of+" Entries "+strconv.Itoa(k), p.Entries))
	}
	return all
}

// handed tells where the lists of what Link is handed lie.
func handed(g given) []piece {
	all := []piece{room("Comps", g.m.Comps), room("Imports", g.m.Imports), room("Shares", g.m.Shares), room("Grants", g.m.Grants), room("objs", g.objs)}
	for k, o := range g.objs {
		of := " of " + strconv.Itoa(k)
		all = append(all, room("Code"+of, o.Code), room("Data"+of, o.Data), room("Syms"+of, o.Syms), room("Rels"+of, o.Rels))
	}
	return all
}

// TestApart: what is answered shares no memory with what was handed in, nor with
// any other answer, nor do two lists of one answer.
func TestApart(t *testing.T) { // P2
	small := some()
	for k := range small.objs { // what could be handed on as it is
		o := &small.objs[k]
		o.Code, o.Data, o.Rels = make([]byte, 32), nil, nil
		o.Syms = slices.DeleteFunc(o.Syms, func(s obj.Sym) bool { return s.Data })
	}
	for _, g := range []given{some(), great(), small} {
		all := handed(g)
		for n := range 4 {
			i, err := link.Link(g.m, g.objs, g.size)
			if err != nil {
				t.Fatal(err)
			}
			all = append(all, answered(strconv.Itoa(n), i)...)
		}
		apart(t, all)
	}
}

// named makes of each name of g one that has memory of its own.
func named(g given) given {
	g = copied(g)
	for k := range g.m.Comps {
		g.m.Comps[k].Name = strings.Clone(g.m.Comps[k].Name)
	}
	for k := range g.objs {
		g.objs[k].Name = strings.Clone(g.objs[k].Name)
	}
	return g
}

// TestNames: nor does a name that is answered lie in one that was handed in.
func TestNames(t *testing.T) { // P2
	g := named(some())
	i, err := link.Link(g.m, g.objs, g.size)
	if err != nil {
		t.Fatal(err)
	}
	var all []piece
	for k := range g.m.Comps {
		all = append(all, word("name "+strconv.Itoa(k), g.m.Comps[k].Name), word("object "+strconv.Itoa(k), g.objs[k].Name), word("part "+strconv.Itoa(k), i.Parts[k].Name))
	}
	apart(t, all)
}

// TestNothingKept: an answer stays as it is, whatever comes of what was handed
// in.
func TestNothingKept(t *testing.T) { // P2
	g := some()
	i, err := link.Link(g.m, g.objs, g.size)
	if err != nil {
		t.Fatal(err)
	}
	for _, o := range g.objs {
		clear(o.Code)
		clear(o.Data)
		clear(o.Syms)
		clear(o.Rels)
	}
	clear(g.objs)
	clear(g.m.Comps)
	clear(g.m.Shares)
	if !img.Same(i, linked()) {
		t.Errorf("P2: the answer hangs on what was handed in: %s", told(i))
	}
	links(t, some(), linked())
}

// roomy answers l with spare room, in which something lies.
func roomy[T any](l []T, x T) []T { return append(slices.Clone(l), x, x, x)[:len(l)] }

// spare answers g with spare room behind all its lists.
func spare(g given) given {
	g.m.Comps, g.m.Imports = roomy(g.m.Comps, man.Comp{Name: "z"}), roomy(g.m.Imports, man.Import{Name: "z"})
	g.m.Shares, g.m.Grants = roomy(g.m.Shares, man.Share{Name: "z"}), roomy(g.m.Grants, man.Grant{Share: "z"})
	g.objs = roomy(g.objs, obj.Object{Name: "z"})
	for k, o := range g.objs {
		g.objs[k] = obj.Object{Name: o.Name, Code: roomy(o.Code, 7), Data: roomy(o.Data, 7), Syms: roomy(o.Syms, obj.Sym{Name: "z"}), Rels: roomy(o.Rels, obj.Rel{Name: "z"})}
	}
	return g
}

// full answers g with the spare room of its lists.
func full(g given) given {
	n := len(g.objs)
	g.m.Comps, g.m.Imports, g.m.Shares, g.m.Grants = g.m.Comps[:len(g.m.Comps)+3], g.m.Imports[:len(g.m.Imports)+3], g.m.Shares[:len(g.m.Shares)+3], g.m.Grants[:len(g.m.Grants)+3]
	g.objs = slices.Clone(g.objs[:n+3])
	for k, o := range g.objs[:n] {
		g.objs[k] = obj.Object{Name: o.Name, Code: o.Code[:len(o.Code)+3], Data: o.Data[:len(o.Data)+3], Syms: o.Syms[:len(o.Syms)+3], Rels: o.Rels[:len(o.Rels)+3]}
	}
	return g
}

// TestNothingIsChanged: what is handed in stays as it is, its spare room too.
func TestNothingIsChanged(t *testing.T) { // P2, P5
	all := []given{some(), great()}
	for _, do := range fine() {
		g := some()
		do(&g)
		all = append(all, g)
	}
	for _, c := range faulty() {
		g := some()
		c.do(&g)
		all = append(all, g)
	}
	for _, g := range all {
		g = spare(g)
		kept := copied(full(g))
		_, err := link.Link(g.m, g.objs, g.size)
		if !alike(full(g), kept) {
			t.Fatalf("P2: something is changed beside %v", err)
		}
	}
}

// TestNewFault: a Fault is nobody else's, nor is one within it.
func TestNewFault(t *testing.T) { // P2, P7
	for k, c := range faulty() {
		g := some()
		c.do(&g)
		seen := map[error]int{}
		for range 2 {
			_, err := link.Link(g.m, g.objs, g.size)
			var f *api.Fault
			for errors.As(err, &f) {
				seen[f]++
				err = f.Err
			}
		}
		if n := strings.Count(c.want, ":"); len(seen) != 2*n {
			t.Errorf("P2: %d: %d Faults of two calls; want %d", k, len(seen), 2*n)
		}
	}
}

// TestFound: errors.As finds the first Fault, and from it the next one; errors.Is
// the Errno within.
func TestFound(t *testing.T) { // P1901
	g := some()
	g.objs[mains].Rels[3].Name = "u"
	_, err := link.Link(g.m, g.objs, g.size)
	var f, within *api.Fault
	if !errors.As(err, &f) || f.Part != "comp" || f.At != 0 || !errors.As(f.Err, &within) || within.Part != "rel" || within.At != 3 || within.Err != api.ErrPerm || !errors.Is(err, api.ErrPerm) || errors.Is(err, api.ErrName) {
		t.Errorf("P1901: %v", err)
	}
	g = some()
	g.objs[as].Data = g.objs[as].Data[:8]
	_, err = link.Link(g.m, g.objs, g.size)
	if !errors.As(err, &f) || f.Part != "object" || f.At != 1 || !errors.As(f.Err, &within) || within.Part != "data" || within.At != 8 || !errors.Is(err, api.ErrAlign) {
		t.Errorf("P1901: %v", err)
	}
	g = some()
	g.m.Start.Comp = "A"
	_, err = link.Link(g.m, g.objs, g.size)
	if !errors.As(err, &f) || *f != (api.Fault{Part: "start", Err: api.ErrKind}) {
		t.Errorf("P1901: %v", err)
	}
}

// TestTogether: calls that run at one time answer as each does alone.
func TestTogether(t *testing.T) { // P3
	g := great()
	want := linkedToo(g)
	var all sync.WaitGroup
	for range 8 {
		all.Go(func() {
			for range 20 {
				i, err := link.Link(g.m, g.objs, g.size)
				if err != nil || !img.Same(i, want) {
					t.Error("P3: another answer beside other calls")
				}
			}
		})
	}
	all.Wait()
}
