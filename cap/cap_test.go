package cap_test

import (
	"fmt"
	"strings"
	"testing"

	"hasp/api"
	"hasp/cap"
)

const last = 1<<32 - 1

// places holds the ends of all numbers, and what lies beside each bound.
func places() []uint32 {
	return []uint32{0, 1, 2, 9, 10, 99, 100, 101, 1<<31 - 1, 1 << 31, last - 1, last}
}

func perms() []uint16 {
	return []uint16{0, api.R, api.X, api.SE, api.UN, api.All &^ api.X, api.All &^ api.SE, api.All &^ api.UN, api.All, 1 << 7, 1 << 15, 1<<16 - 1}
}

func types() []uint16 {
	return []uint16{0, 1, 2, 3, 9, 10, 1023, 1024, 1025, 1<<15 + 9, 1<<16 - 1}
}

// span is a pair of bounds, some of them upside down.
type span struct{ base, top uint32 }

func spans() []span {
	list := []span{}
	for _, base := range []uint32{0, 1, 9, 10, 100, 1 << 31, last} {
		for _, top := range []uint32{0, 9, 10, 100, 101, 1 << 31, last - 1, last} {
			list = append(list, span{base, top})
		}
	}
	return list
}

// bodies: what changes are asked of, with all bounds and addresses.
func bodies() []cap.Cap {
	list := []cap.Cap{}
	for _, tag := range []bool{false, true} {
		for _, s := range spans() {
			for _, addr := range places() {
				for _, p := range []uint16{0, api.X, api.All &^ api.X, api.All, 1<<16 - 1} {
					for _, kind := range []uint16{0, 1, 2, 1<<16 - 1} {
						list = append(list, cap.Cap{Tag: tag, Base: s.base, Top: s.top, Addr: addr, Perm: p, Type: kind})
					}
				}
			}
		}
	}
	return list
}

// keys: what is handed in to seal by, about each bound of their types.
func keys() []cap.Cap {
	list := []cap.Cap{}
	for _, addr := range []uint32{0, 1, 2, 3, 9, 1023, 1024, 1025, 1<<15 + 9, 1<<16 - 1, 1 << 16, 1<<16 + 2, 1<<16 + 9, last - 1, last} {
		for _, s := range []span{{0, last}, {addr, addr + 1}, {addr + 1, last}, {0, addr}, {addr, addr}, {addr + 1, addr}} {
			for _, p := range perms() {
				for _, kind := range []uint16{0, 1, 2, 9, 1<<16 - 1} {
					for _, tag := range []bool{false, true} {
						list = append(list, cap.Cap{Tag: tag, Base: s.base, Top: s.top, Addr: addr, Perm: p, Type: kind})
					}
				}
			}
		}
	}
	return list
}

// sealed: what is handed in to be sealed, of each type.
func sealed() []cap.Cap {
	list := []cap.Cap{}
	for _, kind := range types() {
		for _, tag := range []bool{false, true} {
			list = append(list, cap.Cap{Tag: tag, Base: 100, Top: 200, Addr: 7, Perm: 0, Type: kind}, cap.Cap{Tag: tag, Base: 5, Top: 3, Addr: last, Perm: 1<<16 - 1, Type: kind})
		}
	}
	return list
}

// inside tells Has over numbers that do not wrap round.
func inside(c cap.Cap, a, n uint32) bool {
	from, to := int64(a), int64(a)+int64(n)
	return !(from < int64(c.Base) || to > int64(c.Top))
}

// below tells Sub, permission by permission.
func below(a, b cap.Cap) bool {
	for i := range 16 {
		if a.Perm>>i%2 > b.Perm>>i%2 {
			return false
		}
	}
	return int64(a.Base)-int64(b.Base) >= 0 && int64(b.Top)-int64(a.Top) >= 0
}

// key tells what both ways of sealing ask of k.
func key(k cap.Cap, perm uint16) bool {
	return k.Tag && k.Type == 0 && k.Perm&perm != 0 && inside(k, k.Addr, 1)
}

// check holds an answer against P201's, twice (P3), and against P202's law.
func check(t *testing.T, what string, c cap.Cap, of func() cap.Cap, want cap.Cap) {
	t.Helper()
	for range 2 {
		if got := of(); got != want {
			t.Fatalf("%s of %+v: %+v; want %+v", what, c, got, want)
		}
	}
	if got := of(); got.Tag && !(c.Tag && below(got, c)) {
		t.Fatalf("%s of %+v: %+v is more", what, c, got)
	}
}

func TestIntAndRoot(t *testing.T) { // P201
	for _, v := range places() {
		if c := cap.Int(v); c != (cap.Cap{Addr: v}) {
			t.Errorf("Int(%d): %+v", v, c)
		}
		if c := cap.Root(v); c != (cap.Cap{Tag: true, Base: 0, Top: v, Addr: 0, Perm: 127, Type: 0}) {
			t.Errorf("Root(%d): %+v", v, c)
		}
	}
}

func TestSetAddr(t *testing.T) { // P201, P202
	for _, c := range bodies() {
		for _, a := range places() {
			want := cap.Cap{Tag: c.Tag && c.Type == 0, Base: c.Base, Top: c.Top, Addr: a, Perm: c.Perm, Type: c.Type}
			check(t, fmt.Sprintf("SetAddr(%#x)", a), c, func() cap.Cap { return cap.SetAddr(c, a) }, want)
		}
	}
}

func TestBounds(t *testing.T) { // P201, P202
	for _, c := range bodies() {
		for _, n := range append(places(), c.Top-c.Addr-1, c.Top-c.Addr, c.Top-c.Addr+1) {
			top := uint32((int64(c.Addr) + int64(n)) % (1 << 32))
			want := cap.Cap{Tag: c.Tag && c.Type == 0 && inside(c, c.Addr, n), Base: c.Addr, Top: top, Addr: c.Addr, Perm: c.Perm, Type: c.Type}
			check(t, fmt.Sprintf("Bounds(%#x)", n), c, func() cap.Cap { return cap.Bounds(c, n) }, want)
		}
	}
}

func TestAndPerm(t *testing.T) { // P201, P202
	for _, c := range bodies() {
		for _, mask := range perms() {
			want := cap.Cap{Tag: c.Tag && c.Type == 0, Base: c.Base, Top: c.Top, Addr: c.Addr, Perm: c.Perm & mask, Type: c.Type}
			check(t, fmt.Sprintf("AndPerm(%#x)", mask), c, func() cap.Cap { return cap.AndPerm(c, mask) }, want)
		}
	}
}

func TestClearAndEnter(t *testing.T) { // P201, P202
	for _, c := range bodies() {
		want := c
		want.Tag = false
		check(t, "Clear", c, func() cap.Cap { return cap.Clear(c) }, want)
		want.Tag, want.Type = c.Tag && c.Type == 0 && c.Perm&4 != 0, 1
		check(t, "Enter", c, func() cap.Cap { return cap.Enter(c) }, want)
	}
}

func TestSeal(t *testing.T) { // P201, P202
	for _, c := range sealed() {
		for _, k := range keys() {
			want := c
			if c.Type == 0 && key(k, 32) && k.Addr > 1 && k.Addr < 1024 {
				want.Type = uint16(k.Addr)
			} else {
				want.Tag = false
			}
			check(t, fmt.Sprintf("Seal by %+v", k), c, func() cap.Cap { return cap.Seal(c, k) }, want)
		}
	}
}

func TestUnseal(t *testing.T) { // P201
	for _, c := range sealed() {
		for _, k := range keys() {
			want := c
			if c.Type > 1 && key(k, 64) && int64(k.Addr) == int64(c.Type) {
				want.Type = 0
			} else {
				want.Tag = false
			}
			check(t, fmt.Sprintf("Unseal by %+v", k), c, func() cap.Cap { return cap.Unseal(c, k) }, want)
		}
	}
}

func TestSealsByHand(t *testing.T) { // P201
	c := cap.Cap{Tag: true, Base: 100, Top: 200, Addr: 150, Perm: api.R}
	seal := cap.Cap{Tag: true, Base: 2, Top: 1024, Addr: 2, Perm: api.SE}
	unseal := cap.Cap{Tag: true, Base: 0, Top: 65536, Addr: 2, Perm: api.UN}
	for _, x := range []struct {
		at   uint32
		want string
	}{
		{0, "-[0x00000064,0x000000c8) 0x00000096 p1 t0"}, {1, "-[0x00000064,0x000000c8) 0x00000096 p1 t0"},
		{2, "![0x00000064,0x000000c8) 0x00000096 p1 t2"}, {1023, "![0x00000064,0x000000c8) 0x00000096 p1 t1023"},
		{1024, "-[0x00000064,0x000000c8) 0x00000096 p1 t0"}, {65538, "-[0x00000064,0x000000c8) 0x00000096 p1 t0"},
	} {
		got := cap.Seal(c, cap.SetAddr(seal, x.at))
		if cap.Text(got) != x.want {
			t.Errorf("Seal at %d: %s; want %s", x.at, cap.Text(got), x.want)
		}
		if back := cap.Unseal(got, cap.SetAddr(unseal, x.at)); got.Tag && back != c {
			t.Errorf("Unseal at %d: %s", x.at, cap.Text(back))
		}
		if back := cap.Unseal(got, cap.SetAddr(unseal, x.at+1)); back != cap.Clear(got) {
			t.Errorf("Unseal beside %d: %s", x.at, cap.Text(back))
		}
		if back := cap.Unseal(got, cap.SetAddr(seal, x.at)); back != cap.Clear(got) {
			t.Errorf("Unseal at %d by what seals: %s", x.at, cap.Text(back))
		}
	}
	if s := cap.Enter(cap.AndPerm(cap.Root(16), api.X)); cap.Unseal(s, cap.SetAddr(unseal, api.Sentry)) != cap.Clear(s) {
		t.Error("Unseal of a sentry")
	}
}

func TestHas(t *testing.T) { // P202
	for _, s := range spans() {
		for _, a := range places() {
			for _, n := range append(places(), s.top-a-1, s.top-a, s.top-a+1) {
				for _, c := range []cap.Cap{{Base: s.base, Top: s.top}, {Tag: true, Base: s.base, Top: s.top, Addr: 3, Perm: 9, Type: 7}} {
					if cap.Has(c, a, n) != inside(c, a, n) {
						t.Fatalf("Has(%+v, %#x, %#x): %v", c, a, n, !inside(c, a, n))
					}
				}
			}
		}
	}
}

func TestSub(t *testing.T) { // P202
	for _, s := range spans() {
		for _, u := range spans() {
			for _, p := range perms() {
				for _, q := range perms() {
					a := cap.Cap{Base: s.base, Top: s.top, Addr: 3, Perm: p, Type: 7}
					b := cap.Cap{Tag: true, Base: u.base, Top: u.top, Addr: last, Perm: q}
					if cap.Sub(a, b) != below(a, b) {
						t.Fatalf("Sub(%+v, %+v): %v", a, b, !below(a, b))
					}
				}
			}
		}
	}
}

func TestText(t *testing.T) { // P202
	for want, c := range map[string]cap.Cap{
		"-[0x00000000,0x00000000) 0x00000000 p0 t0":         {},
		"![0x00000001,0x00000002) 0x00000003 p4 t5":         {Tag: true, Base: 1, Top: 2, Addr: 3, Perm: 4, Type: 5},
		"-[0xffffffff,0xabcdef01) 0x80000000 p65535 t65535": {Base: last, Top: 0xABCDEF01, Addr: 1 << 31, Perm: 65535, Type: 65535},
	} {
		if s := cap.Text(c); s != want {
			t.Errorf("Text: %q; want %q", s, want)
		}
	}
	for _, c := range bodies() {
		want := fmt.Sprintf("[0x%08x,0x%08x) 0x%08x p%d t%d", c.Base, c.Top, c.Addr, c.Perm, c.Type)
		rest, is := strings.CutPrefix(cap.Text(c), map[bool]string{true: "!", false: "-"}[c.Tag])
		if !is || rest != want {
			t.Fatalf("Text(%+v): %q", c, cap.Text(c))
		}
	}
}
