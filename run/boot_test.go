package run_test

import (
	"errors"
	"math"
	"slices"
	"strconv"
	"testing"

	"hasp/api"
	"hasp/cap"
	"hasp/run"
	"hasp/step"
)

// pattern answers n bytes, none of which is nought.
func pattern(n int) []byte {
	b := make([]byte, n)
	for i := range b {
		b[i] = byte(1 + i%255)
	}
	return b
}

// refused tells what a Boot is refused for.
func refused(image, size int) (api.Fault, bool) {
	switch {
	case size < 16 || size > 65536:
		return api.Fault{Part: "size", At: size, Err: api.ErrRange}, true
	case size%16 != 0:
		return api.Fault{Part: "size", At: size, Err: api.ErrAlign}, true
	case image > size:
		return api.Fault{Part: "image", At: image, Err: api.ErrRange}, true
	}
	return api.Fault{}, false
}

// booted tells what a machine lacks that Boot answered.
func booted(s *step.State, image []byte, size int, at uint32, in []uint32) string {
	for i, c := range s.Regs.All() {
		want := cap.Cap{}
		if i == 1 {
			want = cap.Cap{Tag: true, Base: 0, Top: uint32(size), Addr: 0, Perm: 123, Type: 0}
		}
		if c != want {
			return "c" + strconv.Itoa(i) + " " + cap.Text(c)
		}
	}
	b, err := s.Mem.Load(0, size)
	switch {
	case s.PCC != cap.Cap{Tag: true, Base: 0, Top: uint32(size), Addr: at, Perm: 13, Type: 0}:
		return "PCC " + cap.Text(s.PCC)
	case s.Mem.Size() != size || err != nil || len(s.Mem.Tags()) != 0:
		return "the memory"
	case string(b) != string(append(slices.Clone(image), make([]byte, size-len(image))...)):
		return "the bytes"
	case !slices.Equal(s.In, in):
		return "In"
	case len(s.Out) != 0:
		return "Out"
	}
	return ""
}

// TestBoot: images and sizes about all their edges.
func TestBoot(t *testing.T) { // P1101, P4, P6
	sizes := []int{math.MinInt, -1<<32 + 64, -65536, -64, -16, 65519, 65520, 65521, 65535, 65536, 65537, 65552, 1 << 17, 1<<32 + 16, 1<<32 + 64, math.MaxInt - 15, math.MaxInt}
	for n := range 90 {
		sizes = append(sizes, n-10)
	}
	for _, size := range sizes {
		lengths := []int{0, 1, 3, 4, 15, 16, 17, 31, 32, 33, 63, 64, 65, 65535, 65536, 65537, 131072}
		if 0 < size && size < 1<<18 {
			lengths = append(lengths, size-1, size, size+1)
		}
		for _, n := range lengths {
			image, in := pattern(n), []uint32{5, last}
			s, err := run.Boot(image, size, 8, in...)
			want, is := refused(n, size)
			var f *api.Fault
			if !is && (err != nil || s == nil || booted(s, image, size, 8, in) != "") {
				t.Fatalf("P1101: %d bytes, size %d: %v", n, size, err)
			}
			if is && (s != nil || !errors.As(err, &f) || *f != want || !errors.Is(err, want.Err)) {
				t.Fatalf("P1101: %d bytes, size %d: %v; want %v", n, size, err, want.Error())
			}
			if string(image) != string(pattern(n)) || !slices.Equal(in, []uint32{5, last}) {
				t.Fatalf("P2: %d bytes, size %d: what was handed in is changed", n, size)
			}
		}
	}
}

// TestBootPlaces: PCC stands wherever it is told to, also where nothing can be
// done; what is to be read is what is handed in.
func TestBootPlaces(t *testing.T) { // P1101
	for _, at := range []uint32{0, 1, 2, 4, 15, 16, 44, 60, 63, 64, 65, 65535, 65536, 1 << 31, last - 3, last} {
		for _, in := range [][]uint32{nil, {}, {0}, {last, 0, 7, 7}, make([]uint32, 300)} {
			s, err := run.Boot([]byte("abc"), 64, at, in...)
			if err != nil || booted(s, []byte("abc"), 64, at, in) != "" {
				t.Fatalf("P1101: at %d: %v", at, err)
			}
			check(t, s, 9)
		}
	}
	s, err := run.Boot(nil, 16, 0)
	if err != nil || booted(s, nil, 16, 0, nil) != "" {
		t.Errorf("P1101: nothing: %v", err)
	}
}

// TestBootApart: what is handed in is not kept, and two machines share nothing.
func TestBootApart(t *testing.T) { // P1101, P2, P7
	image, in := pattern(40), []uint32{5, 6, 7, 77, 78}
	one, err := run.Boot(image[:20], 64, 4, in[:3]...)
	other, _ := run.Boot(image[:20], 64, 4, in[:3]...)
	if err != nil {
		t.Fatal(err)
	}
	for i := range 20 {
		image[i] = 99
	}
	in[0] = 98
	if booted(one, pattern(20), 64, 4, []uint32{5, 6, 7}) != "" {
		t.Errorf("P2: Boot keeps what is handed in: %s", told(one))
	}
	one.Mem.Zero(0, 64)
	one.In[1] = 97
	one.In = append(one.In, 96)
	one.Regs.Set(1, cap.Int(95))
	if booted(other, pattern(20), 64, 4, []uint32{5, 6, 7}) != "" {
		t.Errorf("P7: two machines share something: %s", told(other))
	}
	if !slices.Equal(in, []uint32{98, 6, 7, 77, 78}) || image[0] != 99 || image[20] != 21 {
		t.Errorf("P2: what was handed in is changed: %v", in)
	}
}

// TestBootGrants: what a machine may do with what it begins with.
func TestBootGrants(t *testing.T) { // P1101
	for _, x := range []struct {
		name   string
		rd, rs int
		want   string
	}{
		{"lw", 4, 1, ""}, {"lc", 4, 1, ""}, {"sw", 4, 1, ""}, {"sc", 1, 1, ""}, {"jalr", 0, 1, "jump 0: perm"},
		{"lw", 4, 2, ""}, {"lc", 4, 2, ""}, {"sw", 4, 2, "access 0: perm"}, {"sc", 1, 2, "access 0: perm"}, {"jalr", 0, 2, ""},
	} {
		// c2 is what PCC allows: auipcc is 4 behind 0, imm counts by 4.
		image := append(make([]byte, 4), bytes(is("auipcc", 2, 0, 0, -1), is(x.name, x.rd, x.rs, 0, 0))...)
		s, err := run.Boot(image, 64, 4)
		if err != nil {
			t.Fatal(err)
		}
		if e := run.Run(s, 2); text(e.Err) != x.want || e.Steps != map[bool]int{true: 2, false: 1}[x.want == ""] {
			t.Errorf("P1101: %s c%d, c%d: %s", x.name, x.rd, x.rs, ended(e))
		}
	}
	// What is stored by c1 is loaded with its Tag by either.
	s := boot(is("auipcc", 2, 0, 0, 0), is("sc", 1, 1, 0, 48), is("lc", 4, 1, 0, 48), is("lc", 5, 2, 0, 48), is("halt", 0, 0, 0, 0))
	if e := run.Run(s, 9); e.Event.Kind != step.Halt || !s.Regs.Get(4).Tag || s.Regs.Get(4) != s.Regs.Get(1) || s.Regs.Get(5) != s.Regs.Get(1) {
		t.Errorf("P1101: %s; %s", ended(e), told(s))
	}
}
