package img_test

import (
	"slices"
	"strconv"
	"sync"
	"testing"
	"unsafe"

	"hasp/img"
)

// a piece is some memory.
type piece struct {
	of         string
	begin, end uintptr
}

// room tells where a slice lies, its spare room too.
func room[T any](of string, s []T) piece {
	var one T
	begin := uintptr(unsafe.Pointer(unsafe.SliceData(s)))
	return piece{of, begin, begin + uintptr(cap(s))*unsafe.Sizeof(one)}
}

// letters tells where a string lies.
func letters(s string) piece {
	begin := uintptr(unsafe.Pointer(unsafe.StringData(s)))
	return piece{strconv.Quote(s), begin, begin + uintptr(len(s))}
}

// apart fails if two of some pieces share any of their memory.
func apart(t *testing.T, all []piece) {
	t.Helper()
	for k, p := range all {
		for _, q := range all[:k] {
			if p.begin < q.end && q.begin < p.end {
				t.Errorf("P2: %s shares memory with %s", p.of, q.of)
			}
		}
	}
}

// lists answers where the lists of an image lie.
func lists(of string, i img.Image) []piece {
	all := []piece{room(of+" Parts", i.Parts), room(of+" Shares", i.Shares), room(of+" Inits", i.Inits), room(of+" Bytes", i.Bytes)}
	for k, p := range i.Parts {
		all = append(all, room(of+" Entries "+strconv.Itoa(k), p.Entries))
	}
	return all
}

// TestApart: what is answered shares no memory with what was handed in, nor
// with any other answer, nor do two lists of one answer.
func TestApart(t *testing.T) { // P2
	for _, i := range []img.Image{some(), great(), small()} {
		b := []byte(encoded(i))
		all := append(lists("handed in", i), room("bytes handed in", b))
		for n := range 4 {
			to := strconv.Itoa(n)
			bytes, err := img.Encode(i)
			if err != nil {
				t.Fatal(err)
			}
			x, err := img.Decode(b)
			if err != nil {
				t.Fatal(err)
			}
			all = append(append(all, lists(to, x)...), room("bytes "+to, bytes))
			for _, p := range x.Parts {
				apart(t, []piece{letters(p.Name), room("bytes handed in", b)})
			}
		}
		apart(t, all)
	}
}

// TestNothingKept: an answer stays as it is, whatever comes of what was handed
// in; nor does an empty list lie there.
func TestNothingKept(t *testing.T) { // P2
	b := []byte(encoded(some()))
	i, err := img.Decode(b)
	if err != nil {
		t.Fatal(err)
	}
	clear(b)
	if !alike(i, some()) {
		t.Errorf("P2: Decode's answer hangs on what was handed in: %s", told(i))
	}
	from := some()
	b, err = img.Encode(from)
	if err != nil {
		t.Fatal(err)
	}
	for _, p := range from.Parts {
		clear(p.Entries)
	}
	clear(from.Parts)
	clear(from.Shares)
	clear(from.Inits)
	clear(from.Bytes)
	if string(b) != with(nil) {
		t.Errorf("P2: Encode's answer hangs on what was handed in: %q", b)
	}
	none := small()
	none.Bytes = nil
	b = []byte(encoded(none))
	i, err = img.Decode(b)
	if err != nil {
		t.Fatal(err)
	}
	begin := uintptr(unsafe.Pointer(unsafe.SliceData(b)))
	for _, p := range lists("empty", i) {
		if p.begin >= begin && p.begin < begin+uintptr(cap(b)) {
			t.Errorf("P2: %s lies in what was handed in", p.of)
		}
	}
}

// roomy answers l with spare room, in which something lies.
func roomy[T any](l []T, x T) []T { return append(slices.Clone(l), x, x, x)[:len(l)] }

// spare answers i with spare room behind all its lists.
func spare(i img.Image) img.Image {
	i.Parts, i.Shares = roomy(i.Parts, img.Part{Name: "z"}), roomy(i.Shares, img.Span{At: 7})
	i.Inits, i.Bytes = roomy(i.Inits, img.Init{Kind: 7}), roomy(i.Bytes, 7)
	for k := range i.Parts {
		i.Parts[k].Entries = roomy(i.Parts[k].Entries, 7)
	}
	return i
}

// full answers i with the spare room of its lists.
func full(i img.Image) img.Image {
	i.Parts, i.Shares = slices.Clone(i.Parts[:len(i.Parts)+3]), i.Shares[:len(i.Shares)+3]
	i.Inits, i.Bytes = i.Inits[:len(i.Inits)+3], i.Bytes[:len(i.Bytes)+3]
	for k := range len(i.Parts) - 3 {
		i.Parts[k].Entries = i.Parts[k].Entries[:len(i.Parts[k].Entries)+3]
	}
	return i
}

// TestNothingIsChanged: what is handed in stays as it is, its spare room too.
func TestNothingIsChanged(t *testing.T) { // P2, P5
	all := others()
	for _, do := range fine() {
		i := some()
		do(&i)
		all = append(all, i)
	}
	for _, c := range faulty() {
		i := some()
		c.do(&i)
		all = append(all, i)
	}
	for _, i := range all {
		i = spare(i)
		kept := copied(full(i))
		img.Check(i)
		img.Same(i, some())
		img.Same(some(), i)
		img.Encode(i)
		if !alike(full(i), kept) {
			t.Fatalf("P2: changed: %s", told(i))
		}
		b := append([]byte(encoded(i)), "spare bytes"...)
		was := string(b[:cap(b)])
		img.Decode(b[:len(b)-11])
		img.Decode(b[:len(b)/2])
		img.Decode(b)
		if string(b[:cap(b)]) != was {
			t.Fatalf("P2: the bytes of this are changed: %s", told(i))
		}
	}
}

// TestNothingBeside: beside an error there is nothing.
func TestNothingBeside(t *testing.T) { // P4
	for _, c := range faulty() {
		i := some()
		c.do(&i)
		if b, err := img.Encode(i); len(b) != 0 || err == nil {
			t.Errorf("P4: Encode: %d bytes beside %v", len(b), err)
		}
		if x, err := img.Decode([]byte(encoded(i))[1:]); !alike(x, img.Image{}) || err == nil {
			t.Errorf("P4: Decode: %s beside %v", told(x), err)
		}
		b := []byte(encoded(i))
		if x, err := img.Decode(b); err != nil && !alike(x, img.Image{}) {
			t.Errorf("P4: Decode: %s beside %v", told(x), err)
		}
	}
}

// TestNewFault: a Fault is nobody else's.
func TestNewFault(t *testing.T) { // P2, P7
	for k, c := range faulty() {
		i := some()
		c.do(&i)
		if a, b := img.Check(i), img.Check(i); a == b {
			t.Errorf("P2: %d: one Fault for two", k)
		}
	}
	_, a := img.Decode(nil)
	if _, b := img.Decode(nil); a == b || a == nil {
		t.Error("P2: one Fault for two")
	}
}

// TestTogether: calls that run at one time answer as each does alone.
func TestTogether(t *testing.T) { // P3
	s := encoded(great())
	var all sync.WaitGroup
	for range 8 {
		all.Go(func() {
			for range 20 {
				i, err := img.Decode([]byte(s))
				b, wrong := img.Encode(i)
				if err != nil || wrong != nil || string(b) != s || img.Check(i) != nil || !img.Same(i, great()) {
					t.Error("P3: another answer beside other calls")
				}
			}
		})
	}
	all.Wait()
}
