package mem_test

import (
	"bytes"
	"errors"
	"math"
	"slices"
	"testing"

	"hasp/api"
	"hasp/cap"
	"hasp/mem"
	"hasp/pack"
)

// some is a capability each of whose bytes is another one, none of them 0.
var some = cap.Cap{Tag: true, Base: 0x04030201, Top: 0x08070605, Addr: 0x0C0B0A09, Perm: 0x0E0D, Type: 0x100F}

// model tells P401 byte by byte: no lists that are cut, and no granules but
// by division.
type model struct {
	size int
	byte map[int]byte
	tag  map[int]bool
}

// newModel answers the model of a new memory.
func newModel(size int) *model {
	return &model{size: size, byte: map[int]byte{}, tag: map[int]bool{}}
}

// beyond tells whether n bytes from a on may not be asked for; big numbers are
// told by floats, which do not wrap round.
func (w *model) beyond(a, n int) bool {
	return a < 0 || n < 0 || float64(a)+float64(n) > float64(w.size)
}

// capError tells what a granule at a is refused for.
func (w *model) capError(a int) error {
	if w.beyond(a, 16) {
		return api.ErrRange
	}
	if a%16 != 0 {
		return api.ErrAlign
	}
	return nil
}

func (w *model) bytesError(a, n int) error {
	if w.beyond(a, n) {
		return api.ErrRange
	}
	return nil
}

func (w *model) put(a int, v byte) {
	w.byte[a] = v
	w.tag[a/16] = false
}

func (w *model) putCap(a int, c cap.Cap) {
	for i, v := range pack.Put(c) {
		w.put(a+i, v)
	}
	w.tag[a/16] = c.Tag
}

// check holds all that m tells of itself against the model.
func (w *model) check(t *testing.T, m *mem.Mem) {
	t.Helper()
	all, err := m.Load(0, w.size)
	if m.Size() != w.size || len(all) != w.size || err != nil {
		t.Fatalf("Size: %d, %d, %v; want %d", m.Size(), len(all), err, w.size)
	}
	var tags []int
	for a, v := range all {
		if v != w.byte[a] || m.Tag(a) != w.tag[a/16] {
			t.Fatalf("at %d: %d, %v; want %d, %v", a, v, m.Tag(a), w.byte[a], w.tag[a/16])
		}
		if a%16 == 0 && w.tag[a/16] {
			tags = append(tags, a)
		}
		if a%16 == 0 {
			c, err := m.LoadCap(a)
			if c != pack.Get([16]byte(all[a:a+16]), w.tag[a/16]) || err != nil {
				t.Fatalf("LoadCap(%d): %s, %v", a, cap.Text(c), err)
			}
		}
	}
	if !slices.Equal(m.Tags(), tags) {
		t.Fatalf("Tags: %v; want %v", m.Tags(), tags)
	}
}

// made answers a memory of that size, which must be one.
func made(t *testing.T, size int) *mem.Mem {
	t.Helper()
	m, err := mem.New(size)
	if m == nil || err != nil {
		t.Fatalf("New(%d): %v", size, err)
	}
	return m
}

// full answers a memory without noughts, and its model: granules with tags
// and without stand by turns.
func full(t *testing.T, size int) (*mem.Mem, *model) {
	t.Helper()
	m, w := made(t, size), newModel(size)
	for a := 0; a < size; a += 16 {
		c := some
		c.Tag = a%48 != 16
		if err := m.StoreCap(a, c); err != nil {
			t.Fatal(err)
		}
		w.putCap(a, c)
	}
	w.check(t, m)
	return m, w
}

// told fails unless err is a Fault of just that part, place and error, or,
// where want is nil, none.
func told(t *testing.T, what string, a, n int, err error, part string, want error) {
	t.Helper()
	if want == nil {
		if err != nil {
			t.Fatalf("%s %d, %d: %v", what, a, n, err)
		}
		return
	}
	var f *api.Fault
	if !errors.As(err, &f) || *f != (api.Fault{Part: part, At: a, Err: want}) || !errors.Is(err, want) {
		t.Fatalf("%s %d, %d: %v; want %s %d: %v", what, a, n, err, part, a, want)
	}
}

// unchanged fails if a call that was refused left something behind.
func unchanged(t *testing.T, m *mem.Mem, before *mem.Mem) {
	t.Helper()
	if !m.Same(before) || !before.Same(m) {
		t.Fatal("a refused call changed something")
	}
}

// places holds each place in and about a memory of that size, and the ends of
// all numbers.
func places(size int) []int {
	list := []int{math.MinInt, math.MinInt + 1, -1 << 62, -1 << 32, -1 << 31, -1<<31 - 1, -65536}
	for a := -33; a <= size+33; a++ {
		list = append(list, a)
	}
	return append(list, 65536, 1<<31-1, 1<<31, 1<<32-16, 1<<32, 1<<32+16, 1<<62, math.MaxInt-15, math.MaxInt-1, math.MaxInt)
}

func TestNew(t *testing.T) { // P401, P4, P6
	sizes := []int{math.MinInt, math.MinInt + 16, -1 << 32, -65536, 1 << 17, 1<<31 - 16, 1 << 31, 1<<32 + 16, 1 << 62, math.MaxInt - 15, math.MaxInt}
	for size := -70; size <= 65536+70; size++ {
		sizes = append(sizes, size)
	}
	for _, size := range sizes {
		var want error
		if size < 16 || size > 65536 {
			want = api.ErrRange
		} else if size%16 != 0 {
			want = api.ErrAlign
		}
		m, err := mem.New(size)
		told(t, "New", size, 0, err, "size", want)
		if (m == nil) != (err != nil) || m != nil && m.Size() != size {
			t.Fatalf("New(%d): %v, %v", size, m, err)
		}
	}
	for _, size := range []int{16, 32, 48, 4096, 65520, 65536} {
		newModel(size).check(t, made(t, size))
	}
}

func TestLoad(t *testing.T) { // P401, P3 to P5
	m, w := full(t, 64)
	before := m.Twin()
	for _, a := range places(64) {
		for _, n := range places(64) {
			b, err := m.Load(a, n)
			told(t, "Load", a, n, err, "mem", w.bytesError(a, n))
			if err != nil && len(b) != 0 || err == nil && len(b) != n {
				t.Fatalf("Load(%d, %d): %x, %v", a, n, b, err)
			}
			for i, v := range b {
				if v != w.byte[a+i] {
					t.Fatalf("Load(%d, %d): %x", a, n, b)
				}
			}
			if again, _ := m.Load(a, n); !bytes.Equal(again, b) {
				t.Fatalf("Load(%d, %d): %x, %x", a, n, b, again)
			}
		}
	}
	unchanged(t, m, before)
}

func TestStore(t *testing.T) { // P401, P5
	for _, a := range places(64) {
		for n := 0; n <= 70; n++ {
			m, w := full(t, 64)
			b := bytes.Repeat([]byte{0xA5}, n)
			want := w.bytesError(a, n)
			told(t, "Store", a, n, m.Store(a, b), "mem", want)
			for i := 0; i < n && want == nil; i++ {
				w.put(a+i, 0xA5)
			}
			w.check(t, m)
		}
	}
}

func TestStoreByHand(t *testing.T) { // P401
	for _, x := range []struct {
		a, n int
		tags []int
	}{
		{0, 0, []int{0, 16, 32}}, {5, 0, []int{0, 16, 32}}, {16, 0, []int{0, 16, 32}}, {48, 0, []int{0, 16, 32}},
		{0, 1, []int{16, 32}}, {15, 1, []int{16, 32}}, {0, 16, []int{16, 32}}, {16, 1, []int{0, 32}}, {31, 1, []int{0, 32}}, {47, 1, []int{0, 16}},
		{15, 2, []int{32}}, {0, 17, []int{32}}, {31, 2, []int{0}}, {15, 17, []int{32}}, {15, 18, nil}, {0, 48, nil},
	} {
		m := made(t, 48)
		for a := 0; a < 48; a += 16 {
			m.StoreCap(a, some)
		}
		z := m.Twin()
		if err := m.Store(x.a, make([]byte, x.n)); err != nil || !slices.Equal(m.Tags(), x.tags) {
			t.Errorf("Store(%d, of %d): %v, %v; want %v", x.a, x.n, m.Tags(), err, x.tags)
		}
		if err := z.Zero(x.a, x.n); err != nil || !z.Same(m) {
			t.Errorf("Zero(%d, %d): %v, %v; want %v", x.a, x.n, z.Tags(), err, x.tags)
		}
	}
}

// TestSameBytes: a tag goes even if what is stored is what lies there.
func TestSameBytes(t *testing.T) { // P401
	m := made(t, 32)
	m.StoreCap(16, some)
	b, _ := m.Load(16, 16)
	if err := m.Store(20, b[4:5]); err != nil || m.Tag(16) || len(m.Tags()) != 0 {
		t.Errorf("Store: %v, %v", m.Tags(), err)
	}
	if c, err := m.LoadCap(16); c != cap.Clear(some) || err != nil {
		t.Errorf("LoadCap: %s, %v", cap.Text(c), err)
	}
}

func TestZero(t *testing.T) { // P401, P5
	for _, a := range places(64) {
		for _, n := range places(64) {
			m, w := full(t, 64)
			want := w.bytesError(a, n)
			told(t, "Zero", a, n, m.Zero(a, n), "mem", want)
			for i := 0; want == nil && i < n; i++ {
				w.put(a+i, 0)
			}
			w.check(t, m)
		}
	}
}

// kinds: capabilities of all fields' ends, bounds upside down, types and
// permissions that are none.
func kinds() []cap.Cap {
	list := []cap.Cap{{}, cap.Int(1<<32 - 1), cap.Root(65536), some, {Base: 7, Top: 3, Addr: 1, Perm: 1<<16 - 1, Type: 1<<16 - 1}}
	for _, c := range slices.Clone(list) {
		c.Tag = !c.Tag
		list = append(list, c)
	}
	return list
}

func TestCaps(t *testing.T) { // P401, P4 to P6
	for _, a := range places(64) {
		for _, c := range kinds() {
			m, w := full(t, 64)
			before := m.Twin()
			want := w.capError(a)
			told(t, "StoreCap", a, 0, m.StoreCap(a, c), "mem", want)
			got, err := m.LoadCap(a)
			told(t, "LoadCap", a, 0, err, "mem", want)
			if want != nil {
				unchanged(t, m, before)
				if got != (cap.Cap{}) {
					t.Fatalf("LoadCap(%d): %s beside %v", a, cap.Text(got), err)
				}
				continue
			}
			if got != c {
				t.Fatalf("LoadCap(%d): %s; want %s", a, cap.Text(got), cap.Text(c))
			}
			w.putCap(a, c)
			w.check(t, m)
		}
	}
}

// TestBytesOfCaps: bytes are seen as a capability, and back, but make none.
func TestBytesOfCaps(t *testing.T) { // P401, T1
	m := made(t, 32)
	b := pack.Put(some)
	if err := m.Store(16, b[:]); err != nil {
		t.Fatal(err)
	}
	if c, err := m.LoadCap(16); c != cap.Clear(some) || err != nil || m.Tag(16) {
		t.Errorf("LoadCap: %s, %v", cap.Text(c), err)
	}
	m.StoreCap(16, some)
	if got, err := m.Load(16, 16); !bytes.Equal(got, b[:]) || err != nil || !m.Tag(16) {
		t.Errorf("Load: %x, %v", got, err)
	}
}

func TestTag(t *testing.T) { // P401, P1
	m, w := full(t, 64)
	for _, a := range places(64) {
		if want := 0 <= a && a < 64 && w.tag[a/16]; m.Tag(a) != want {
			t.Errorf("Tag(%d): %v", a, !want)
		}
	}
}

func TestGreatest(t *testing.T) { // P401
	m := made(t, api.MaxMem)
	w := newModel(api.MaxMem)
	for _, a := range []int{65520, 0, 32768, 16} {
		if err := m.StoreCap(a, some); err != nil {
			t.Fatal(err)
		}
		w.putCap(a, some)
	}
	w.check(t, m)
	told(t, "Store", 65535, 2, m.Store(65535, []byte{1, 2}), "mem", api.ErrRange)
	told(t, "Store", 65535, 1, m.Store(65535, []byte{1}), "mem", nil)
	w.put(65535, 1)
	w.check(t, m)
	told(t, "Zero", 0, 65537, m.Zero(0, 65537), "mem", api.ErrRange)
	told(t, "Zero", 0, 65536, m.Zero(0, 65536), "mem", nil)
	newModel(65536).check(t, m)
}

func TestTwin(t *testing.T) { // P401, P7
	m, w := full(t, 64)
	for _, change := range []func(*mem.Mem) error{
		func(m *mem.Mem) error { return m.Store(3, []byte{9}) },
		func(m *mem.Mem) error { return m.Zero(0, 64) },
		func(m *mem.Mem) error { return m.StoreCap(16, some) },
		func(m *mem.Mem) error { return m.StoreCap(0, cap.Clear(some)) },
	} {
		twin := m.Twin()
		w.check(t, twin)
		if twin == m || !m.Same(twin) || !twin.Same(m) {
			t.Fatal("Twin is not the same")
		}
		if err := change(twin); err != nil || m.Same(twin) || twin.Same(m) {
			t.Fatalf("Twin: no change, %v", err)
		}
		w.check(t, m)
		kept := twin.Twin()
		other := m.Twin()
		if err := change(other); err != nil || !other.Same(kept) {
			t.Fatalf("Twin: the same change, %v", err)
		}
		w.check(t, m)
	}
}

func TestSame(t *testing.T) { // P401
	m, _ := full(t, 64)
	if !m.Same(m) {
		t.Error("Same of itself")
	}
	for a := range 64 {
		o := m.Twin()
		v, _ := o.Load(a, 1)
		tag := o.Tag(a)
		o.Store(a, v)
		if m.Same(o) == tag || o.Same(m) == tag {
			t.Errorf("Same: a tag at %d: %v", a, m.Same(o))
		}
		p := o.Twin()
		p.Store(a, []byte{v[0] ^ 0x80})
		if o.Same(p) || p.Same(o) {
			t.Errorf("Same: a byte at %d", a)
		}
		if p.Store(a, v); !o.Same(p) {
			t.Errorf("Same: a byte put back at %d", a)
		}
	}
	for _, size := range []int{16, 48, 80, 65536} {
		if o := made(t, size); o.Same(made(t, 64)) || made(t, 64).Same(o) || !o.Same(made(t, size)) {
			t.Errorf("Same: of sizes 64, %d", size)
		}
	}
}

// TestLists: what is handed in and out is of nobody else, spare room too.
func TestLists(t *testing.T) { // P2
	m, w := full(t, 64)
	for a := range 65 {
		for n := 0; a+n <= 64; n++ {
			b, _ := m.Load(a, n)
			clear(b)
			_ = append(b, 0)
			w.check(t, m)
		}
	}
	tags := m.Tags()
	for i := range tags {
		tags[i] = -1
	}
	_ = append(tags, -1)
	w.check(t, m)
	spare := []byte{1, 2, 3, 4, 5, 6, 7, 8}
	if err := m.Store(20, spare[2:4]); err != nil || !bytes.Equal(spare, []byte{1, 2, 3, 4, 5, 6, 7, 8}) {
		t.Errorf("Store: %v, %v", spare, err)
	}
	w.put(20, 3)
	w.put(21, 4)
	clear(spare)
	w.check(t, m)
	if m.Store(0, nil) != nil || m.Store(0, []byte{}) != nil || m.Store(64, nil) != nil {
		t.Error("Store of nothing")
	}
	w.check(t, m)
}

// TestEmpty: a memory that New did not make has no bytes, and nothing panics.
func TestEmpty(t *testing.T) { // P1
	for _, m := range []*mem.Mem{{}, new(mem.Mem).Twin()} {
		w := newModel(0)
		for _, a := range places(0) {
			for _, n := range places(0) {
				_, err := m.Load(a, n)
				told(t, "Load", a, n, err, "mem", w.bytesError(a, n))
				told(t, "Zero", a, n, m.Zero(a, n), "mem", w.bytesError(a, n))
			}
			told(t, "Store", a, 1, m.Store(a, []byte{1}), "mem", api.ErrRange)
			told(t, "StoreCap", a, 0, m.StoreCap(a, some), "mem", api.ErrRange)
		}
		w.check(t, m)
	}
}

// TestDays: many calls, one behind the other, hold against the model, and a
// second memory that gets the same ones stays the same.
func TestDays(t *testing.T) { // P401, P3, P5
	m, w := full(t, 160)
	twin := m.Twin()
	seed := uint32(1)
	draw := func(n int) int {
		seed = seed*1664525 + 1013904223
		return int(seed>>8) % n
	}
	for range 20000 {
		a, n, kind := draw(180)-10, draw(40)-2, draw(4)
		c := kinds()[draw(len(kinds()))]
		for _, x := range []*mem.Mem{m, twin} {
			switch kind {
			case 0:
				told(t, "Store", a, n, x.Store(a, bytes.Repeat([]byte{byte(a)}, max(n, 0))), "mem", w.bytesError(a, max(n, 0)))
			case 1:
				told(t, "Zero", a, n, x.Zero(a, n), "mem", w.bytesError(a, n))
			case 2:
				told(t, "StoreCap", a, 0, x.StoreCap(a, c), "mem", w.capError(a))
			case 3:
				told(t, "StoreCap", a&^15, 0, x.StoreCap(a&^15, c), "mem", w.capError(a&^15))
			}
		}
		w.do(kind, a, n, c)
		w.check(t, m)
		unchanged(t, m, twin)
	}
}

// do makes the model of what TestDays does, if it may be.
func (w *model) do(kind, a, n int, c cap.Cap) {
	switch {
	case kind == 3 && w.capError(a&^15) == nil:
		w.putCap(a&^15, c)
	case kind == 2 && w.capError(a) == nil:
		w.putCap(a, c)
	case kind < 2 && w.bytesError(a, n) == nil:
		for i := range n {
			w.put(a+i, byte(a*(1-kind)))
		}
	}
}
