package regs_test

import (
	"math"
	"slices"
	"testing"

	"hasp/cap"
	"hasp/regs"
)

// none holds numbers that no register has: beside the sixteen, what would be
// one if it were cut or counted from the end, and the ends of all ints.
func none() []int {
	list := []int{math.MinInt, math.MinInt32, math.MinInt16, math.MinInt8, math.MaxInt8, math.MaxInt16, math.MaxInt32, math.MaxInt}
	for n := range 16 {
		list = append(list, n-16, n+16, n-32, n+32, n+1<<8, n-1<<8, n+1<<16, n-1<<16, n+1<<32, n-1<<32, n+math.MinInt, math.MaxInt-n)
	}
	return list
}

// some is a capability of its own for each n, no field of which is nought.
func some(n int) cap.Cap {
	return cap.Cap{Tag: true, Base: uint32(n) + 1, Top: uint32(n) + 1000, Addr: uint32(n) + 500, Perm: uint16(n) + 1, Type: uint16(n) + 3}
}

// kinds: what may be put into a register: numbers, capabilities open and
// sealed, and what is neither.
func kinds() []cap.Cap {
	return []cap.Cap{
		cap.Int(0), cap.Int(1), cap.Int(1<<32 - 1), cap.Root(0), cap.Root(65536), cap.Clear(cap.Root(65536)), {Tag: true},
		some(7), cap.Clear(some(7)), {Base: 9, Top: 3, Perm: 1<<16 - 1, Type: 1<<16 - 1}, {Tag: true, Base: 1<<32 - 1, Top: 1<<32 - 1, Addr: 1<<32 - 1, Perm: 1<<16 - 1, Type: 1<<16 - 1},
	}
}

// full answers registers that all but 0 hold another capability, and these.
func full() (*regs.File, [16]cap.Cap) {
	f, want := regs.New(), [16]cap.Cap{}
	for i := 1; i < 16; i++ {
		want[i] = some(i)
		f.Set(i, want[i])
	}
	return f, want
}

// check holds all that f tells of itself against what is wanted.
func check(t *testing.T, what string, f *regs.File, want [16]cap.Cap) {
	t.Helper()
	all := f.All()
	for i, c := range want {
		if f.Get(i) != c || all[i] != c {
			t.Fatalf("%s: %d: Get %s, All %s; want %s", what, i, cap.Text(f.Get(i)), cap.Text(all[i]), cap.Text(c))
		}
	}
	for _, i := range none() {
		if got := f.Get(i); got != cap.Int(0) {
			t.Fatalf("%s: Get(%d): %s", what, i, cap.Text(got))
		}
	}
}

func TestNew(t *testing.T) { // P801, P3, P7
	f, other := regs.New(), regs.New()
	if f == other {
		t.Fatal("New: the same one twice")
	}
	check(t, "New", f, [16]cap.Cap{})
	f.Set(3, some(3))
	check(t, "another one", other, [16]cap.Cap{})
	check(t, "a later one", regs.New(), [16]cap.Cap{})
}

func TestSet(t *testing.T) { // P801
	for i := 1; i < 16; i++ {
		for _, c := range kinds() {
			f, want := full()
			f.Set(i, c)
			want[i] = c
			check(t, "Set", f, want)
			f.Set(i, some(99))
			want[i] = some(99)
			check(t, "Set again", f, want)
		}
	}
}

func TestSetOfNone(t *testing.T) { // P801, P1
	for _, i := range append(none(), 0) {
		for _, c := range kinds() {
			f, want := full()
			f.Set(i, c)
			check(t, "Set of none", f, want)
			f = regs.New()
			f.Set(i, c)
			check(t, "Set of none, new", f, [16]cap.Cap{})
		}
	}
}

// TestKeepAny: every choice of the sixteen, rising, and falling with each twice.
func TestKeepAny(t *testing.T) { // P801
	for choice := range 1 << 16 {
		want, list := [16]cap.Cap{}, []int{}
		for i := range 16 {
			if choice>>i&1 == 1 {
				list = append(list, i)
				if i > 0 {
					want[i] = some(i)
				}
			}
		}
		f, _ := full()
		f.Keep(list...)
		if f.All() != want {
			t.Fatalf("Keep(%v): %v", list, f.All())
		}
		f, _ = full()
		slices.Reverse(list)
		f.Keep(append(list, list...)...)
		if f.All() != want {
			t.Fatalf("Keep(%v) twice: %v", list, f.All())
		}
	}
}

func TestKeepByHand(t *testing.T) { // P801, P1
	for _, x := range []struct{ list, kept []int }{
		{nil, nil}, {[]int{}, nil}, {[]int{0}, nil}, {[]int{16}, nil}, {[]int{-1}, nil}, {none(), nil},
		{[]int{1}, []int{1}}, {[]int{15}, []int{15}}, {[]int{15, 1, 15, 8}, []int{1, 8, 15}}, {[]int{5, 0, 16, -5}, []int{5}},
		{append(none(), 4), []int{4}}, {append([]int{4}, none()...), []int{4}}, {slices.Repeat([]int{9, 2, 77}, 1000), []int{2, 9}},
	} {
		f, all := full()
		want := [16]cap.Cap{}
		for _, i := range x.kept {
			want[i] = all[i]
		}
		f.Keep(x.list...)
		check(t, "Keep", f, want)
		f.Keep(x.list...)
		check(t, "Keep again", f, want)
		f.Keep(1, 2, 3, 4, 5, 6, 7, 8, 9, 10, 11, 12, 13, 14, 15)
		check(t, "Keep of all", f, want)
		f.Set(6, some(6))
		want[6] = some(6)
		check(t, "Set behind Keep", f, want)
	}
}

// TestKeepOfList: a list that is handed in stays as it is, its spare room too,
// and is not looked at any more.
func TestKeepOfList(t *testing.T) { // P2
	f, all := full()
	list := []int{7, 3, -1, 3, 0, 12, 99}
	f.Keep(list[:4]...)
	if !slices.Equal(list, []int{7, 3, -1, 3, 0, 12, 99}) {
		t.Errorf("Keep changes its list: %v", list)
	}
	clear(list)
	check(t, "Keep", f, [16]cap.Cap{3: all[3], 7: all[7]})
}

// TestAllIsNew: whatever is done to an answer, no register is changed by it,
// nor by what is done to registers an earlier answer.
func TestAllIsNew(t *testing.T) { // P801, P2
	f, want := full()
	all, kept := f.All(), f.All()
	clear(all[:])
	check(t, "All", f, want)
	f.Set(1, cap.Int(9))
	f.Keep(1)
	if kept != want {
		t.Errorf("All: a later change is in it: %v", kept)
	}
}

func TestTwin(t *testing.T) { // P801, P7
	for _, change := range []func(*regs.File){
		func(f *regs.File) { f.Set(1, cap.Int(5)) },
		func(f *regs.File) { f.Set(15, some(1)) },
		func(f *regs.File) { f.Keep(2) },
		func(f *regs.File) { f.Keep() },
	} {
		f, want := full()
		twin, kept := f.Twin(), f.Twin()
		if twin == f || twin == kept {
			t.Fatal("Twin: not another one")
		}
		check(t, "Twin", twin, want)
		change(twin)
		if twin.All() == want {
			t.Fatal("Twin: no change")
		}
		check(t, "what it was made of", f, want)
		last := twin.Twin()
		change(f)
		if f.All() != twin.All() || last.All() != twin.All() {
			t.Fatal("Twin: the same change")
		}
		check(t, "another Twin", kept, want)
	}
	check(t, "Twin of New", regs.New().Twin(), [16]cap.Cap{})
}

// TestEmpty: registers that New did not make are like those that it makes.
func TestEmpty(t *testing.T) { // P1
	for _, f := range []*regs.File{{}, new(regs.File).Twin()} {
		check(t, "empty", f, [16]cap.Cap{})
		f.Set(0, some(0))
		f.Set(16, some(16))
		f.Set(15, some(15))
		check(t, "empty, Set", f, [16]cap.Cap{15: some(15)})
		f.Keep(14)
		check(t, "empty, Keep", f, [16]cap.Cap{})
	}
}

// model tells P801 by a map that only what is a register goes into.
type model map[int]cap.Cap

func (w model) set(i int, c cap.Cap) {
	if slices.Contains([]int{1, 2, 3, 4, 5, 6, 7, 8, 9, 10, 11, 12, 13, 14, 15}, i) {
		w[i] = c
	}
}

func (w model) keep(list []int) {
	for i := range 16 {
		if !slices.Contains(list, i) {
			delete(w, i)
		}
	}
}

func (w model) all() [16]cap.Cap {
	list := [16]cap.Cap{}
	for i := range list {
		list[i] = w[i]
	}
	return list
}

// TestDays: many calls, one behind the other, hold against the model; other
// registers that get the same ones hold the same, be they twins or not.
func TestDays(t *testing.T) { // P801, P3
	f, twin, w := regs.New(), regs.New(), model{}
	seed := uint32(1)
	draw := func(n int) int {
		seed = seed*1664525 + 1013904223
		return int(seed>>8) % n
	}
	places := none()
	for i := range 16 {
		places = append(places, slices.Repeat([]int{i}, 20)...)
	}
	for range 20000 {
		list := []int{}
		for range draw(40) {
			list = append(list, places[draw(len(places))])
		}
		i, c := places[draw(len(places))], kinds()[draw(len(kinds()))]
		switch draw(10) {
		case 0:
			f.Keep(list...)
			twin.Keep(list...)
			w.keep(list)
		case 1:
			twin = f.Twin()
		default:
			f.Set(i, c)
			twin.Set(i, c)
			w.set(i, c)
		}
		check(t, "days", f, w.all())
		if twin.All() != f.All() {
			t.Fatalf("the same calls: %v; want %v", twin.All(), f.All())
		}
	}
}
