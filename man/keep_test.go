package man_test

import (
	"slices"
	"strings"
	"sync"
	"testing"
	"unsafe"

	"hasp/man"
)

// TestKept: what is handed in, its spare room too, stays as it is.
func TestKept(t *testing.T) { // P2
	for i, c := range append(faulty(), change{do: func(m *man.Manifest) {}}) {
		m := some()
		c.do(&m)
		m.Comps, m.Imports = roomy(m.Comps, man.Comp{Name: "z", Stack: 7}), roomy(m.Imports, man.Import{Comp: "z"})
		m.Shares, m.Grants = roomy(m.Shares, man.Share{Name: "z"}), roomy(m.Grants, man.Grant{Comp: "z"})
		kept, room := copied(m), copied(whole(m))
		man.Check(m)
		man.Text(m)
		man.Index(m, "A")
		if !alike(m, kept) || !alike(whole(m), room) {
			t.Errorf("P2: %d: %s; it was %s", i, told(m), told(kept))
		}
	}
}

// roomy answers l with spare room, in which something lies.
func roomy[T any](l []T, x T) []T { return append(slices.Clone(l), x, x, x)[:len(l)] }

// whole answers m with the spare room of its lists.
func whole(m man.Manifest) man.Manifest {
	m.Comps, m.Imports = m.Comps[:len(m.Comps)+3], m.Imports[:len(m.Imports)+3]
	m.Shares, m.Grants = m.Shares[:len(m.Shares)+3], m.Grants[:len(m.Grants)+3]
	return m
}

// TestNew: what Parse answers is no piece of the text, and nobody else's.
func TestNew(t *testing.T) { // P2
	s := strings.Join(written, "")
	from := uintptr(unsafe.Pointer(unsafe.StringData(s)))
	a, err := man.Parse(s)
	b, again := man.Parse(s)
	if err != nil || again != nil {
		t.Fatal(err, again)
	}
	for _, x := range texts(a) {
		if at := uintptr(unsafe.Pointer(unsafe.StringData(x))); at >= from && at < from+uintptr(len(s)) {
			t.Errorf("P2: %q is a piece of the text", x)
		}
	}
	for _, m := range []*man.Manifest{&a, &b} { // the spare room, too
		for i := range m.Comps[:cap(m.Comps)] {
			m.Comps[:cap(m.Comps)][i].Name = "z"
		}
		for i := range m.Imports[:cap(m.Imports)] {
			m.Imports[:cap(m.Imports)][i].Name = "z"
		}
		for i := range m.Shares[:cap(m.Shares)] {
			m.Shares[:cap(m.Shares)][i].Name = "z"
		}
		for i := range m.Grants[:cap(m.Grants)] {
			m.Grants[:cap(m.Grants)][i].Share = "z"
		}
		if x, err := man.Parse(s); err != nil || !alike(x, some()) || m == &a && !alike(b, some()) {
			t.Errorf("P2: what one answer's owner does, another one tells: %s; %s, %v", told(b), told(x), err)
		}
	}
}

// TestNewFault: a Fault is nobody else's.
func TestNewFault(t *testing.T) { // P2, P7
	for i, c := range faulty() {
		m := some()
		c.do(&m)
		if a, b := man.Check(m), man.Check(m); a == b {
			t.Errorf("P2: %d: one Fault for two", i)
		}
	}
	if _, a := man.Parse("x"); a != nil {
		if _, b := man.Parse("x"); a == b {
			t.Error("P2: one Fault for two")
		}
	}
}

// TestTogether: calls that run at one time answer as each does alone.
func TestTogether(t *testing.T) { // P3
	s := man.Text(most())
	var all sync.WaitGroup
	for range 8 {
		all.Go(func() {
			for range 100 {
				m, err := man.Parse(s)
				if err != nil || man.Text(m) != s || man.Check(m) != nil || man.Index(m, "C234567890123456") != 2 {
					t.Error("P3: another answer beside other calls")
				}
			}
		})
	}
	all.Wait()
}
