package access_test

import (
	"errors"
	"fmt"
	"math"
	"slices"
	"testing"

	"hasp/access"
	"hasp/api"
	"hasp/cap"
	"hasp/mem"
	"hasp/pack"
)

const last = 1<<32 - 1

// some is a capability each of whose bytes is another one, none of them 0,
// with and without their highest bits.
var some = cap.Cap{Tag: true, Base: 0x84038201, Top: 0x08870685, Addr: 0x8C0B8A09, Perm: 0x0E8D, Type: 0x900F}

// told fails unless err is just that Fault itself, or, where want has no
// error, none.
func told(t *testing.T, err error, want api.Fault, what string, of ...any) {
	t.Helper()
	if want.Err == nil {
		if err != nil {
			t.Fatalf("%s: %v; want none", fmt.Sprintf(what, of...), err)
		}
		return
	}
	f, ok := err.(*api.Fault)
	if !ok || *f != want || !errors.Is(err, want.Err) {
		t.Fatalf("%s: %v; want %v", fmt.Sprintf(what, of...), err, &want)
	}
}

// lacks tells Check's Fault from its last rule to its first one, so that the
// first that applies stands: by numbers that do not wrap round, permission by
// permission.
func lacks(c cap.Cap, a, n int64, perm uint16) api.Fault {
	f := api.Fault{Part: "access", At: int(a)}
	if n > 0 && a/n*n != a {
		f.Err = api.ErrAlign
	}
	if a < int64(c.Base) || int64(c.Top) < a+n {
		f.Err = api.ErrBound
	}
	for i := range 16 {
		if perm>>i%2 == 1 && c.Perm>>i%2 == 0 {
			f.Err = api.ErrPerm
		}
	}
	if c.Type > 0 {
		f.Err = api.ErrSeal
	}
	if !c.Tag {
		f.Err = api.ErrTag
	}
	if f.Err == nil {
		return api.Fault{}
	}
	return f
}

// at tells the place by numbers that do not wrap round.
func at(c cap.Cap, off int32) int64 {
	a := int64(c.Addr) + int64(off)
	for a < 0 {
		a += 1 << 32
	}
	return a % (1 << 32)
}

// beyond tells what mem itself says of n bytes at a.
func beyond(m *mem.Mem, a, n int64) api.Fault {
	if a+n > int64(m.Size()) {
		return api.Fault{Part: "mem", At: int(a), Err: api.ErrRange}
	}
	return api.Fault{}
}

// refused tells what a call at off is refused for: by c first, then by m.
func refused(m *mem.Mem, c cap.Cap, off int32, n int64, perm uint16) api.Fault {
	if f := lacks(c, at(c, off), n, perm); f.Err != nil {
		return f
	}
	return beyond(m, at(c, off), n)
}

// sized is refused, of a number of n bytes.
func sized(m *mem.Mem, c cap.Cap, off int32, n int, perm uint16) api.Fault {
	if n != 1 && n != 2 && n != 4 {
		return api.Fault{Part: "size", At: n, Err: api.ErrOp}
	}
	return refused(m, c, off, int64(n), perm)
}

// full answers a memory of 64 bytes without noughts, whose granules have tags,
// but the one at 16.
func full(t *testing.T) *mem.Mem {
	t.Helper()
	m, err := mem.New(64)
	if err != nil {
		t.Fatal(err)
	}
	for a := 0; a < 64; a += 16 {
		c := some
		c.Tag = a != 16
		if err := m.StoreCap(a, c); err != nil {
			t.Fatal(err)
		}
	}
	return m
}

// held fails unless m is just as want.
func held(t *testing.T, m, want *mem.Mem, what string, of ...any) {
	t.Helper()
	if !m.Same(want) {
		a, _ := m.Load(0, m.Size())
		b, _ := want.Load(0, want.Size())
		t.Fatalf("%s: %x, %v; want %x, %v", fmt.Sprintf(what, of...), a, m.Tags(), b, want.Tags())
	}
}

// kinds: capabilities with each thing that may be missing, alone and with
// others, at that address.
func kinds(addr uint32) []cap.Cap {
	list := []cap.Cap{}
	for _, s := range [][2]uint32{{0, 64}, {16, 48}, {17, 47}, {0, 128}, {0, last}, {32, 32}, {48, 16}, {last, last}} {
		for _, p := range []uint16{0, api.R, api.W, api.R | api.W, api.R | api.LC, api.W | api.SC, api.W | api.LC, api.R | api.SC, api.All, api.All &^ api.LC, api.All &^ api.SC, 1<<16 - 1, 1<<16 - 1 - api.R, 1<<16 - 1 - api.W} {
			list = append(list, cap.Cap{Tag: true, Base: s[0], Top: s[1], Addr: addr, Perm: p})
		}
	}
	for _, c := range list[:len(list):len(list)] {
		for _, kind := range []uint16{1, 2, 256, 1 << 15} {
			c.Type = kind
			list = append(list, c)
		}
	}
	for _, c := range slices.Clone(list) {
		list = append(list, cap.Clear(c))
	}
	return list
}

// offs holds what lies about each bound from addr, and the ends of all offs.
func offs(addr uint32) []int32 {
	list := []int32{math.MinInt32, math.MinInt32 + 1, -1 << 16, -16, -1, 0, 1, 16, 1 << 16, math.MaxInt32 - 1, math.MaxInt32}
	for _, a := range []uint32{0, 15, 16, 17, 18, 20, 28, 31, 32, 33, 43, 44, 45, 46, 47, 48, 60, 61, 62, 63, 64, 65, 112, 124, 127, 128, last - 15, last - 3, last} {
		list = append(list, int32(a-addr))
	}
	return list
}

// addrs holds where capabilities stand: within, without, and where adding to
// them wraps round.
func addrs() []uint32 { return []uint32{0, 1, 20, 63, 64, 1 << 31, last - 15, last} }

// sizes holds those that no number has: beside those that are one, and what
// would be one if it were cut.
func sizes() []int {
	return []int{math.MinInt, math.MinInt + 4, -1 << 32, -1<<32 + 4, -4, -1, 0, 3, 5, 6, 7, 8, 16, 256 + 1, 1<<16 + 2, 1 << 31, 1 << 32, 1<<32 + 1, 1<<32 + 4, math.MaxInt}
}

func TestCheck(t *testing.T) { // P501, P6
	numbers := []uint32{0, 1, 2, 3, 4, 5, 15, 16, 17, 18, 31, 32, 46, 47, 48, 49, 64, 1 << 31, last - 15, last - 3, last - 1, last}
	perms := []uint16{0, api.R, api.W, api.X, api.R | api.W, api.W | api.SC, api.All, 1 << 7, 1 << 15, 1<<16 - 1}
	for _, c := range kinds(32) {
		for _, a := range numbers {
			for _, n := range numbers {
				for _, perm := range perms {
					want := lacks(c, int64(a), int64(n), perm)
					told(t, access.Check(c, a, n, perm), want, "Check(%+v, %d, %d, %d)", c, a, n, perm)
				}
			}
		}
	}
}

// TestCheckOrder: of all that is wrong at once what is not mended yet is told,
// one behind the other.
func TestCheckOrder(t *testing.T) { // P501, P6
	c := cap.Cap{Base: 16, Top: 48, Addr: 90, Perm: api.R, Type: api.Entry}
	for _, x := range []struct {
		mend func()
		a    uint32
		want error
	}{
		{func() {}, 47, api.ErrTag},
		{func() { c.Tag = true }, 47, api.ErrSeal},
		{func() { c.Type = api.Sentry }, 47, api.ErrSeal},
		{func() { c.Type = api.Open }, 47, api.ErrPerm},
		{func() { c.Perm = api.W }, 47, api.ErrPerm},
		{func() { c.Perm = api.R | api.W }, 47, api.ErrBound},
		{func() {}, 42, api.ErrAlign},
		{func() {}, 44, nil},
	} {
		x.mend()
		want := api.Fault{Part: "access", At: int(x.a), Err: x.want}
		told(t, access.Check(c, x.a, 4, api.R|api.W), want, "Check by %+v", c)
	}
}

// TestCheckByHand: bounds are about the bytes, not about c's address.
func TestCheckByHand(t *testing.T) { // P501
	c := cap.Cap{Tag: true, Base: 16, Top: 48, Addr: 1000, Perm: api.R}
	for _, x := range []struct {
		a, n uint32
		want error
	}{
		{16, 1, nil}, {47, 1, nil}, {16, 16, nil}, {32, 16, nil}, {18, 6, nil}, {18, 9, nil}, {18, 5, api.ErrAlign},
		{16, 0, nil}, {17, 0, nil}, {48, 0, nil}, {49, 0, api.ErrBound}, {15, 0, api.ErrBound}, {15, 1, api.ErrBound}, {48, 1, api.ErrBound}, {15, 4, api.ErrBound},
		{16, 32, api.ErrAlign}, {16, 33, api.ErrBound}, {16, last, api.ErrBound}, {last, last, api.ErrBound}, {last, 49, api.ErrBound}, {0, 0, api.ErrBound},
	} {
		told(t, access.Check(c, x.a, x.n, api.R), api.Fault{Part: "access", At: int(x.a), Err: x.want}, "Check at %d of %d", x.a, x.n)
	}
	whole := cap.Root(last)
	told(t, access.Check(whole, 0, last, api.All), api.Fault{}, "Check of all")
	told(t, access.Check(whole, last-1, 1, 0), api.Fault{}, "Check of the last")
	told(t, access.Check(whole, last, 1, 0), api.Fault{Part: "access", At: last, Err: api.ErrBound}, "Check behind the last")
	told(t, access.Check(whole, last, 0, 0), api.Fault{}, "Check of none at the end")
}

// number tells what n bytes at a are: each worth 256 times the one before it,
// and the half that has a sign 256^n less.
func number(t *testing.T, m *mem.Mem, a int64, n int, sign bool) uint32 {
	t.Helper()
	b, err := m.Load(int(a), n)
	if err != nil {
		t.Fatal(err)
	}
	v, worth := int64(0), int64(1)
	for _, x := range b {
		v += int64(x) * worth
		worth *= 256
	}
	if sign && v >= worth/2 {
		v -= worth
	}
	if v < 0 {
		v += 1 << 32
	}
	return uint32(v)
}

func TestLoad(t *testing.T) { // P501, P3 to P6
	m := full(t)
	before := m.Twin()
	for _, addr := range addrs() {
		for _, c := range kinds(addr) {
			for _, off := range offs(addr) {
				for _, n := range []int{1, 2, 4, 3} {
					for _, sign := range []bool{false, true} {
						f := sized(m, c, off, n, api.R)
						got, err := access.Load(m, c, off, n, sign)
						told(t, err, f, "Load(%+v, %d, %d, %v)", c, off, n, sign)
						want := uint32(0)
						if f.Err == nil {
							want = number(t, m, at(c, off), n, sign)
						}
						if again, _ := access.Load(m, c, off, n, sign); got != want || again != want {
							t.Fatalf("Load(%+v, %d, %d, %v): %#x, %#x; want %#x", c, off, n, sign, got, again, want)
						}
					}
				}
			}
			held(t, m, before, "Load by %+v", c)
		}
	}
}

func TestLoadByHand(t *testing.T) { // P501
	m, _ := mem.New(32)
	m.Store(16, []byte{0x80, 0x7F, 0xFF, 0x00, 0xFE, 0xFF, 0xFF, 0xFF})
	c := cap.Cap{Tag: true, Base: 16, Top: 24, Addr: 20, Perm: api.R}
	for _, x := range []struct {
		off        int32
		n          int
		bare, sign uint32
	}{
		{-4, 1, 0x80, 0xFFFFFF80}, {-3, 1, 0x7F, 0x7F}, {-2, 1, 0xFF, last}, {-1, 1, 0, 0},
		{-4, 2, 0x7F80, 0x7F80}, {-2, 2, 0x00FF, 0x00FF}, {0, 2, 0xFFFE, 0xFFFFFFFE}, {2, 2, 0xFFFF, last},
		{-4, 4, 0x00FF7F80, 0x00FF7F80}, {0, 4, 0xFFFFFFFE, 0xFFFFFFFE}, {3, 1, 0xFF, last},
	} {
		for _, sign := range []bool{false, true} {
			want := x.bare
			if sign {
				want = x.sign
			}
			if v, err := access.Load(m, c, x.off, x.n, sign); v != want || err != nil {
				t.Errorf("Load(%d, %d, %v): %#x, %v; want %#x", x.off, x.n, sign, v, err, want)
			}
		}
	}
}

func TestStore(t *testing.T) { // P501, P4 to P6
	before := full(t)
	m := before.Twin()
	for _, addr := range addrs() {
		for _, c := range kinds(addr) {
			for _, off := range offs(addr) {
				for _, n := range []int{1, 2, 4, 3} {
					for _, v := range []uint32{0, 0x76F5A4D3} {
						f := sized(m, c, off, n, api.W)
						told(t, access.Store(m, c, off, n, v), f, "Store(%+v, %d, %d, %#x)", c, off, n, v)
						if f.Err != nil {
							continue
						}
						want := before.Twin()
						for i, x := range []byte{byte(v), byte(v >> 8), byte(v >> 16), byte(v >> 24)}[:n] {
							want.Store(int(at(c, off))+i, []byte{x})
						}
						held(t, m, want, "Store(%+v, %d, %d, %#x)", c, off, n, v)
						m = before.Twin()
					}
				}
			}
			held(t, m, before, "Store refused to %+v", c)
		}
	}
}

// TestSizes: a size that is none is told whatever else is wrong.
func TestSizes(t *testing.T) { // P501, P4 to P6, P9
	m := full(t)
	before := m.Twin()
	for _, n := range sizes() {
		want := api.Fault{Part: "size", At: n, Err: api.ErrOp}
		for _, c := range []cap.Cap{cap.Root(64), cap.Root(128), cap.Int(16), {Tag: true, Top: 64, Type: 1}, {}} {
			for _, off := range offs(c.Addr) {
				v, err := access.Load(m, c, off, n, n%2 == 0)
				told(t, err, want, "Load(%+v, %d, %d)", c, off, n)
				told(t, access.Store(m, c, off, n, 7), want, "Store(%+v, %d, %d)", c, off, n)
				if v != 0 {
					t.Fatalf("Load(%+v, %d, %d): %d beside an error", c, off, n, v)
				}
			}
		}
	}
	held(t, m, before, "sizes")
}

func TestStoreByHand(t *testing.T) { // P501
	c := cap.Cap{Tag: true, Base: 16, Top: 48, Addr: 30, Perm: api.W}
	for _, x := range []struct {
		off  int32
		n    int
		v    uint32
		at   int
		want []byte
		tags []int
	}{
		{2, 4, 0x8899AABB, 32, []byte{0xBB, 0xAA, 0x99, 0x88}, []int{0, 48}},
		{0, 2, 0xFFFF1234, 30, []byte{0x34, 0x12}, []int{0, 32, 48}},
		{17, 1, 0xFFFFFF56, 47, []byte{0x56}, []int{0, 48}},
		{-14, 4, 1, 16, []byte{1, 0, 0, 0}, []int{0, 32, 48}},
	} {
		m := full(t)
		if err := access.Store(m, c, x.off, x.n, x.v); err != nil {
			t.Errorf("Store(%d, %d): %v", x.off, x.n, err)
		}
		if b, _ := m.Load(x.at, x.n); !slices.Equal(b, x.want) || !slices.Equal(m.Tags(), x.tags) {
			t.Errorf("Store(%d, %d): %x, %v; want %x, %v", x.off, x.n, b, m.Tags(), x.want, x.tags)
		}
	}
}

func TestLoadCap(t *testing.T) { // P501, P3 to P6, T1
	m := full(t)
	before := m.Twin()
	for _, addr := range addrs() {
		for _, c := range kinds(addr) {
			for _, off := range offs(addr) {
				f := refused(m, c, off, 16, api.R)
				got, err := access.LoadCap(m, c, off)
				told(t, err, f, "LoadCap(%+v, %d)", c, off)
				want := cap.Cap{}
				if f.Err == nil {
					want = some
					want.Tag = at(c, off) != 16 && c.Perm&api.LC != 0
				}
				if again, _ := access.LoadCap(m, c, off); got != want || again != want {
					t.Fatalf("LoadCap(%+v, %d): %+v, %+v; want %+v", c, off, got, again, want)
				}
			}
			held(t, m, before, "LoadCap by %+v", c)
		}
	}
}

func TestStoreCap(t *testing.T) { // P501, P4 to P6, T1
	before := full(t)
	m := before.Twin()
	values := []cap.Cap{{}, {Tag: true}, cap.Int(last), cap.Root(64), {Tag: true, Base: 9, Top: 3, Addr: last, Perm: 1<<16 - 1, Type: 1<<16 - 1}, some, cap.Clear(some)}
	for _, addr := range addrs() {
		for _, c := range kinds(addr) {
			for _, off := range offs(addr) {
				for _, v := range values {
					perm := uint16(api.W)
					if v.Tag {
						perm = api.W | api.SC
					}
					f := refused(m, c, off, 16, perm)
					told(t, access.StoreCap(m, c, off, v), f, "StoreCap(%+v, %d, %+v)", c, off, v)
					if f.Err != nil {
						continue
					}
					want := before.Twin()
					want.StoreCap(int(at(c, off)), v)
					held(t, m, want, "StoreCap(%+v, %d, %+v)", c, off, v)
					m = before.Twin()
				}
			}
			held(t, m, before, "StoreCap refused to %+v", c)
		}
	}
}

// TestCapsByHand: who may do what with capabilities, by permissions alone.
func TestCapsByHand(t *testing.T) { // P501
	for _, x := range []struct {
		perm               uint16
		tagged, bare, load error
		tag                bool
	}{
		{perm: 0, tagged: api.ErrPerm, bare: api.ErrPerm, load: api.ErrPerm},
		{perm: api.R, tagged: api.ErrPerm, bare: api.ErrPerm},
		{perm: api.W, tagged: api.ErrPerm, load: api.ErrPerm},
		{perm: api.SC, tagged: api.ErrPerm, bare: api.ErrPerm, load: api.ErrPerm},
		{perm: api.LC, tagged: api.ErrPerm, bare: api.ErrPerm, load: api.ErrPerm},
		{perm: api.R | api.LC, tagged: api.ErrPerm, bare: api.ErrPerm, tag: true},
		{perm: api.W | api.SC, load: api.ErrPerm},
		{perm: api.R | api.W, tagged: api.ErrPerm},
		{perm: api.R | api.W | api.LC, tagged: api.ErrPerm, tag: true},
		{perm: api.R | api.W | api.SC},
		{perm: api.R | api.W | api.LC | api.SC, tag: true},
	} {
		c := cap.Cap{Tag: true, Base: 32, Top: 48, Addr: 40, Perm: x.perm}
		fault := func(err error) api.Fault { return api.Fault{Part: "access", At: 32, Err: err} }
		told(t, access.StoreCap(full(t), c, -8, some), fault(x.tagged), "StoreCap by %+v", c)
		told(t, access.StoreCap(full(t), c, -8, cap.Clear(some)), fault(x.bare), "StoreCap of bytes by %+v", c)
		v, err := access.LoadCap(full(t), c, -8)
		told(t, err, fault(x.load), "LoadCap by %+v", c)
		if v.Tag != x.tag || x.load == nil && cap.Clear(v) != cap.Clear(some) || x.load != nil && v != (cap.Cap{}) {
			t.Errorf("LoadCap by %+v: %+v", c, v)
		}
	}
}

// TestBytesOfCaps: numbers see a capability's bytes, and take its Tag; they
// make none.
func TestBytesOfCaps(t *testing.T) { // P501, T1
	m, _ := mem.New(32)
	c := cap.Root(32)
	if err := access.StoreCap(m, c, 16, some); err != nil || !m.Tag(16) {
		t.Fatalf("StoreCap: %v, %v", m.Tags(), err)
	}
	for i, b := range pack.Put(some) {
		v, err := access.Load(m, c, 16+int32(i), 1, false)
		if v != uint32(b) || err != nil || !m.Tag(16) {
			t.Fatalf("Load at %d: %#x, %v; want %#x", 16+i, v, err, b)
		}
		if err := access.Store(m, c, int32(i), 1, v); err != nil {
			t.Fatal(err)
		}
	}
	if v, err := access.LoadCap(m, c, 0); v != cap.Clear(some) || err != nil {
		t.Errorf("LoadCap of bytes: %s, %v", cap.Text(v), err)
	}
	if err := access.Store(m, c, 31, 1, 0x90); err != nil {
		t.Fatal(err)
	}
	if v, err := access.LoadCap(m, c, 16); v != cap.Clear(some) || err != nil {
		t.Errorf("LoadCap behind Store: %s, %v", cap.Text(v), err)
	}
}

// TestPlaceWraps: the place is modulo 2^32, both ways.
func TestPlaceWraps(t *testing.T) { // P501
	m := full(t)
	for _, x := range []struct {
		addr uint32
		off  int32
		at   int
	}{
		{last, 5, 4}, {last - 15, 32, 16}, {1 << 31, math.MinInt32, 0}, {1<<31 + 8, math.MinInt32, 8}, {4, -8, last - 3}, {0, math.MinInt32, 1 << 31}, {1, math.MaxInt32, 1 << 31}, {1<<31 + 5, math.MaxInt32, 4},
	} {
		c := cap.SetAddr(cap.Root(64), x.addr)
		f := api.Fault{}
		if x.at >= 64 {
			f = api.Fault{Part: "access", At: x.at, Err: api.ErrBound}
		}
		v, err := access.Load(m, c, x.off, 4, false)
		told(t, err, f, "Load at %d and %d", x.addr, x.off)
		if f.Err == nil && v != number(t, m, int64(x.at), 4, false) {
			t.Errorf("Load at %d and %d: %#x", x.addr, x.off, v)
		}
	}
}

// TestEmpty: a memory that New did not make has no bytes, and nothing panics.
func TestEmpty(t *testing.T) { // P1
	m, c := new(mem.Mem), cap.Root(last)
	want := api.Fault{Part: "mem", At: 16, Err: api.ErrRange}
	v, err := access.Load(m, c, 16, 4, true)
	told(t, err, want, "Load")
	told(t, access.Store(m, c, 16, 4, 1), want, "Store")
	k, err := access.LoadCap(m, c, 16)
	told(t, err, want, "LoadCap")
	told(t, access.StoreCap(m, c, 16, some), want, "StoreCap")
	if v != 0 || k != (cap.Cap{}) {
		t.Errorf("beside an error: %#x, %s", v, cap.Text(k))
	}
}

// TestDays: whatever many calls ask by many capabilities, bytes change only
// where one with W has them, and a Tag comes only by one with SC, too.
func TestDays(t *testing.T) { // T1, W1, P3, P5
	m := full(t)
	twin := m.Twin()
	seed := uint32(1)
	draw := func(n int) int {
		seed = seed*1664525 + 1013904223
		return int(seed>>8) % n
	}
	for range 50000 {
		c := cap.Cap{Tag: draw(8) > 0, Base: uint32(draw(70)), Top: uint32(draw(70)), Addr: uint32(draw(80) - 4), Perm: uint16(draw(32)), Type: uint16(max(draw(10)-7, 0))}
		off, n, v, kind := int32(draw(60)-30), draw(6)-1, uint32(draw(1<<24)*257), draw(4)
		before := m.Twin()
		if one, other := do(m, kind, c, off, n, v), do(twin, kind, c, off, n, v); one != other {
			t.Fatalf("by %+v: %s; %s", c, one, other)
		}
		held(t, twin, m, "the twin")
		within(t, m, before, c, kind)
	}
}

// do makes one call of TestDays, and tells what it answered.
func do(m *mem.Mem, kind int, c cap.Cap, off int32, n int, v uint32) string {
	switch kind {
	case 0:
		v, err := access.Load(m, c, off, n, true)
		return fmt.Sprint(v, err)
	case 1:
		return fmt.Sprint(access.Store(m, c, off, n, v))
	case 2:
		k, err := access.LoadCap(m, c, off&^15-int32(c.Addr%16))
		return fmt.Sprint(k, err)
	}
	k := some
	k.Addr, k.Tag = v, v%3 > 0
	return fmt.Sprint(access.StoreCap(m, c, off&^15-int32(c.Addr%16), k))
}

// within fails if what a call did to before is more than c allows.
func within(t *testing.T, m, before *mem.Mem, c cap.Cap, kind int) {
	t.Helper()
	may := c.Tag && c.Type == api.Open && c.Perm&api.W != 0 && kind%2 == 1
	was, _ := before.Load(0, before.Size())
	is, _ := m.Load(0, m.Size())
	for a := range is {
		if is[a] != was[a] && !(may && int(c.Base) <= a && a < int(c.Top)) {
			t.Fatalf("%s changed the byte at %d", cap.Text(c), a)
		}
		if m.Tag(a) && !before.Tag(a) && !(may && kind == 3 && c.Perm&api.SC != 0) {
			t.Fatalf("%s made a Tag at %d", cap.Text(c), a)
		}
	}
}
