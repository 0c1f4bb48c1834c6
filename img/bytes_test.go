package img_test

import (
	"bytes"
	"encoding/binary"
	"fmt"
	"math"
	"slices"
	"strconv"
	"strings"
	"testing"

	"hasp/api"
	"hasp/img"
	"hasp/obj"
)

// encoded tells P1801's bytes of i another way.
func encoded(i img.Image) string {
	var s bytes.Buffer
	number := func(all ...any) {
		for _, n := range all {
			switch n := n.(type) {
			case int:
				binary.Write(&s, binary.LittleEndian, uint32(n))
			default:
				binary.Write(&s, binary.LittleEndian, n)
			}
		}
	}
	s.WriteString("HIMG")
	number(i.Size, len(i.Parts))
	for _, p := range i.Parts {
		number(byte(len(p.Name)))
		s.WriteString(p.Name)
		number(p.Code.At, p.Code.Size, p.Data.At, p.Data.Size, p.Stack.At, p.Stack.Size, len(p.Entries), p.Entries)
	}
	number(len(i.Shares), i.Shares, len(i.Inits))
	for _, x := range i.Inits {
		number(x.Comp, x.At, x.Kind, x.Data, x.From, x.Addr, int(x.Perm))
	}
	number(i.Start, i.Addr, len(i.Bytes), i.Bytes)
	return s.String()
}

// wanted tells P1801's Decode another way: whatever is wrong ends it at once.
func wanted(b []byte) (i img.Image, f api.Fault) {
	defer func() {
		switch x := recover().(type) {
		case nil:
		case api.Fault:
			i, f = img.Image{}, x
		default:
			panic(x)
		}
	}()
	left := b
	stop := func(at int, of error) { panic(api.Fault{Part: "byte", At: at, Err: of}) }
	next := func(n int) string {
		if len(left) < n {
			stop(len(b), api.ErrShort)
		}
		piece := string(left[:n])
		left = left[n:]
		return piece
	}
	most := func(n int64, of error) int {
		at := len(b) - len(left)
		v := int64(binary.LittleEndian.Uint32([]byte(next(4))))
		if v > n {
			stop(at, of)
		}
		return int(v)
	}
	number := func() uint32 { return uint32(most(math.MaxUint32, nil)) }
	span := func() (s img.Span) { s.At = number(); s.Size = number(); return }
	if next(4) != "HIMG" {
		stop(0, api.ErrForm)
	}
	i.Size = number()
	i.Parts = make([]img.Part, most(64, api.ErrLong))
	for k := range i.Parts {
		p := &i.Parts[k]
		p.Name = next(int(next(1)[0]))
		p.Code = span()
		p.Data = span()
		p.Stack = span()
		p.Entries = make([]uint32, most(64, api.ErrLong))
		for e := range p.Entries {
			p.Entries[e] = number()
		}
	}
	i.Shares = make([]img.Span, most(64, api.ErrLong))
	for k := range i.Shares {
		i.Shares[k] = span()
	}
	i.Inits = make([]img.Init, most(512, api.ErrLong))
	for k := range i.Inits {
		x := &i.Inits[k]
		x.Comp = most(math.MaxInt32, api.ErrOver)
		x.At = number()
		x.Kind = most(math.MaxInt32, api.ErrOver)
		at := len(b) - len(left)
		switch next(1) {
		case "\x00":
		case "\x01":
			x.Data = true
		default:
			stop(at, api.ErrForm)
		}
		x.From = most(math.MaxInt32, api.ErrOver)
		x.Addr = number()
		x.Perm = uint16(most(65535, api.ErrForm))
	}
	i.Start = most(math.MaxInt32, api.ErrOver)
	i.Addr = number()
	i.Bytes = []byte(next(most(65536, api.ErrLong)))
	if len(left) > 0 {
		stop(len(b)-len(left), api.ErrForm)
	}
	if all := wrongs(i); len(all) > 0 {
		return img.Image{}, all[0]
	}
	return i, api.Fault{}
}

// decodes holds Decode(b) against the promises, twice, and answers the Fault
// that there is. What it takes, Encode answers again.
func decodes(t *testing.T, b []byte) api.Fault {
	t.Helper()
	want, f := wanted(b)
	for range 2 {
		i, err := img.Decode(b)
		if !same(err, f) || !alike(i, want) {
			t.Fatalf("P1801: Decode(%s) of %d bytes: %s, %v; want %s, %v", strconv.QuoteToASCII(string(b[:min(len(b), 300)])), len(b), told(i), err, told(want), &f)
		}
		if err != nil {
			continue
		}
		if again, err := img.Encode(i); !bytes.Equal(again, b) || err != nil {
			t.Fatalf("P1801: Encode of what Decode answers: %d bytes, %v", len(again), err)
		}
	}
	return f
}

// written is the bytes of some(), piece by piece.
var written = []string{
	"HIMG", "\x00\x04\x00\x00", "\x03\x00\x00\x00", // 0: Size, parts
	"\x04main", "\x40\x00\x00\x00", "\x30\x00\x00\x00", "\x70\x00\x00\x00", "\x60\x00\x00\x00", "\xd0\x00\x00\x00", "\x20\x00\x00\x00", // 3
	"\x03\x00\x00\x00", "\x40\x00\x00\x00", "\x44\x00\x00\x00", "\x6c\x00\x00\x00", // 10: Entries
	"\x10_234567890abcDEF", "\xf0\x00\x00\x00", "\x10\x00\x00\x00", "\x60\x00\x00\x00", "\x00\x00\x00\x00", "\x00\x01\x00\x00", "\x10\x00\x00\x00", // 14
	"\x01\x00\x00\x00", "\xfc\x00\x00\x00", // 21: Entries
	"\x01A", "\x10\x00\x00\x00", "\x10\x00\x00\x00", "\x20\x00\x00\x00", "\x20\x00\x00\x00", "\x00\x04\x00\x00", "\x00\x00\x00\x00", // 23
	"\x00\x00\x00\x00",                                                                                                                         // 30: Entries
	"\x03\x00\x00\x00", "\x30\x01\x00\x00", "\x00\x00\x00\x00", "\x20\x01\x00\x00", "\x40\x00\x00\x00", "\xf0\x03\x00\x00", "\x10\x00\x00\x00", // 31: Shares
	"\x07\x00\x00\x00",                                                                                                             // 38: Inits
	"\x02\x00\x00\x00", "\x20\x00\x00\x00", "\x01\x00\x00\x00", "\x01", "\x00\x00\x00\x00", "\x40\x00\x00\x00", "\x1b\x00\x00\x00", // 39
	"\x02\x00\x00\x00", "\x30\x00\x00\x00", "\x02\x00\x00\x00", "\x00", "\x00\x00\x00\x00", "\x6c\x00\x00\x00", "\x00\x00\x00\x00", // 46
	"\x00\x00\x00\x00", "\x70\x00\x00\x00", "\x01\x00\x00\x00", "\x00", "\x00\x00\x00\x00", "\x70\x00\x00\x00", "\x0d\x00\x00\x00", // 53
	"\x00\x00\x00\x00", "\x80\x00\x00\x00", "\x01\x00\x00\x00", "\x01", "\x00\x00\x00\x00", "\x70\x00\x00\x00", "\x00\x00\x00\x00", // 60
	"\x00\x00\x00\x00", "\x90\x00\x00\x00", "\x02\x00\x00\x00", "\x00", "\x01\x00\x00\x00", "\xfc\x00\x00\x00", "\x00\x00\x00\x00", // 67
	"\x00\x00\x00\x00", "\xa0\x00\x00\x00", "\x03\x00\x00\x00", "\x00", "\x02\x00\x00\x00", "\xf0\x03\x00\x00", "\x03\x00\x00\x00", // 74
	"\x00\x00\x00\x00", "\xc0\x00\x00\x00", "\x03\x00\x00\x00", "\x00", "\x00\x00\x00\x00", "\x30\x01\x00\x00", "\x01\x00\x00\x00", // 81
	"\x00\x00\x00\x00", "\x44\x00\x00\x00", "\x0d\x00\x00\x00", "some bytes\x00\xff\x80", // 88: Start, Addr, Bytes
}

// place answers where the piece of written that has that number begins.
func place(piece int) int { return len(strings.Join(written[:piece], "")) }

// with answers written, pieces of it changed.
func with(change map[int]string) string {
	l := slices.Clone(written)
	for piece, s := range change {
		l[piece] = s
	}
	return strings.Join(l, "")
}

// small answers an image whose bytes are few.
func small() img.Image {
	return img.Image{Size: 32, Parts: []img.Part{{Name: "a", Code: img.Span{At: 16, Size: 16}, Data: img.Span{At: 16}, Stack: img.Span{At: 32}, Entries: []uint32{28}}}, Addr: 28}
}

func TestBytes(t *testing.T) { // P1801
	zero := "\x00\x00\x00\x00"
	all := img.Image{
		Size:  65536,
		Parts: []img.Part{{Name: "_9", Code: img.Span{At: 0x2030, Size: 0x3020}, Data: img.Span{At: 65520, Size: 16}, Stack: img.Span{At: 65536}, Entries: []uint32{0x2034, 0x504c}}},
		Inits: []img.Init{{At: 65520, Kind: obj.Own, Addr: 0x5050, Perm: 9}},
		Addr:  0x504c,
		Bytes: []byte("HIMG"),
	}
	for s, i := range map[string]img.Image{
		with(nil): some(),
		"HIMG\x20\x00\x00\x00\x01\x00\x00\x00\x01a\x10\x00\x00\x00\x10\x00\x00\x00\x10\x00\x00\x00" + zero + "\x20\x00\x00\x00" + zero + "\x01\x00\x00\x00\x1c\x00\x00\x00" + zero + zero + zero + "\x1c\x00\x00\x00" + zero: small(),
		"HIMG\x00\x00\x01\x00\x01\x00\x00\x00\x02_9\x30\x20\x00\x00\x20\x30\x00\x00\xf0\xff\x00\x00\x10\x00\x00\x00\x00\x00\x01\x00" + zero + "\x02\x00\x00\x00\x34\x20\x00\x00\x4c\x50\x00\x00" + zero +
			"\x01\x00\x00\x00" + zero + "\xf0\xff\x00\x00\x01\x00\x00\x00\x00" + zero + "\x50\x50\x00\x00\x09\x00\x00\x00" + zero + "\x4c\x50\x00\x00\x04\x00\x00\x00HIMG": all,
	} {
		b, err := img.Encode(i)
		if string(b) != s || err != nil {
			t.Errorf("P1801: Encode(%s): %q, %v; want %q", told(i), b, err, s)
		}
		x, err := img.Decode([]byte(s))
		if !alike(x, i) || err != nil {
			t.Errorf("P1801: Decode(%q): %s, %v", s, told(x), err)
		}
		if encoded(i) != s || decodes(t, []byte(s)) != (api.Fault{}) {
			t.Errorf("P1801, told another way: %q", s)
		}
	}
}

func TestNoBytes(t *testing.T) { // P1801, P4, P6
	all := with(nil)
	cases := map[string]string{
		"": "byte 0: short", "H": "byte 1: short", "xyz": "byte 3: short", "HIM": "byte 3: short", "HIMG": "byte 4: short", "HIMGabc": "byte 7: short",
		"HOBJ": "byte 0: form", "himg": "byte 0: form", "HIMg": "byte 0: form", "XIMG" + all[4:]: "byte 0: form", "HOBJ" + all[4:]: "byte 0: form", " " + all: "byte 0: form", all[1:]: "byte 0: form", "\xef\xbb\xbf" + all: "byte 0: form",
		all + "\x00": fmt.Sprintf("byte %d: form", len(all)), all + all: fmt.Sprintf("byte %d: form", len(all)), all[:len(all)-1]: fmt.Sprintf("byte %d: short", len(all)-1),
	}
	add := func(change map[int]string, want string) { cases[with(change)] = want }
	at := func(piece int, of string) string { return "byte " + strconv.Itoa(place(piece)) + ": " + of }
	for _, k := range []int{2, 10, 21, 30, 31} { // parts, Entries, shares
		for _, n := range []string{"\x41\x00\x00\x00", "\x00\x01\x00\x00", "\x03\x00\x01\x00", "\x00\x00\x00\x80", "\xff\xff\xff\xff"} {
			add(map[int]string{k: n}, at(k, "long"))
			add(map[int]string{k: n, 90: "\xff\xff\xff\xff", 91: ""}, at(k, "long"))
		}
	}
	for _, n := range []string{"\x01\x02\x00\x00", "\x00\x03\x00\x00", "\x07\x00\x01\x00", "\x00\x00\x00\x80", "\xff\xff\xff\xff"} {
		add(map[int]string{38: n}, at(38, "long"))
	}
	for _, n := range []string{"\x01\x00\x01\x00", "\x00\x00\x02\x00", "\x0d\x00\x00\x80", "\xff\xff\xff\xff"} {
		add(map[int]string{90: n}, at(90, "long"))
		add(map[int]string{90: n, 91: ""}, at(90, "long"))
	}
	for _, n := range []string{"\x00\x00\x00\x80", "\x01\x00\x00\x80", "\xff\xff\xff\xff"} {
		for _, k := range []int{39, 41, 43, 46, 48, 50, 81, 83, 85, 88} { // Comp, Kind, From, Start
			add(map[int]string{k: n}, at(k, "over"))
			add(map[int]string{k: n, 90: n, 42: "\x01", 49: "\x00"}, at(k, "over"))
		}
	}
	for _, k := range []int{42, 49, 56, 84} { // Data
		for _, c := range []string{"\x02", "\x03", "\x80", "\xff", "1"} {
			add(map[int]string{k: c}, at(k, "form"))
			add(map[int]string{k: c, k + 1: "\xff\xff\xff\xff"}, at(k, "form"))
		}
	}
	for _, k := range []int{45, 52, 59, 87} { // Perm
		for _, n := range []string{"\x00\x00\x01\x00", "\x01\x00\x01\x00", "\x0d\x00\x00\x80", "\xff\xff\xff\xff"} {
			add(map[int]string{k: n}, at(k, "form"))
			add(map[int]string{k: n, 88: "\xff\xff\xff\xff"}, at(k, "form"))
		}
	}
	add(map[int]string{39: "\xff\xff\xff\x7f"}, "init 0: range")
	add(map[int]string{41: "\xff\xff\xff\x7f"}, "init 0: kind")
	add(map[int]string{41: "\x00\x00\x00\x00"}, "init 0: kind")
	add(map[int]string{43: "\xff\xff\xff\x7f"}, "init 0: kind")
	add(map[int]string{50: "\xff\xff\xff\x7f"}, "init 1: range")
	add(map[int]string{88: "\xff\xff\xff\x7f"}, "start 2147483647: range")
	add(map[int]string{45: "\xff\xff\x00\x00"}, "init 0: perm")
	add(map[int]string{52: "\xff\xff\x00\x00"}, "init 1: kind")
	add(map[int]string{87: "\x00\x80\x00\x00"}, "init 6: perm")
	add(map[int]string{49: "\x01"}, "init 1: kind")
	add(map[int]string{1: "\xff\xff\xff\xff"}, "size 4294967295: range")
	add(map[int]string{1: "\x10\x00\x00\x00"}, "span 0: range")
	add(map[int]string{1: "\x08\x00\x00\x00"}, "size 8: range")
	add(map[int]string{3: "\x00"}, "part 0: name")
	add(map[int]string{3: "\x049999"}, "part 0: name")
	add(map[int]string{3: "\xff" + strings.Repeat("a", 255)}, "part 0: name")
	add(map[int]string{23: "\x11_2345678901234567"}, "part 2: name")
	add(map[int]string{23: "\x04main"}, "part 2: twice")
	add(map[int]string{4: "\x40\x00\x00\x80"}, "span 0: range")
	add(map[int]string{5: "\xf0\xff\xff\xff"}, "span 0: range")
	add(map[int]string{12: "\x40\x00\x00\x00"}, "entry 1: twice")
	add(map[int]string{34: "\x22\x01\x00\x00"}, "span 10: align")
	add(map[int]string{89: "\x44\x00\x00\x01"}, "start 0: name")
	add(map[int]string{90: "\x0c\x00\x00\x00"}, fmt.Sprintf("byte %d: form", len(all)-1))
	add(map[int]string{90: "\x0e\x00\x00\x00"}, fmt.Sprintf("byte %d: short", len(all)))
	add(map[int]string{90: "\x00\x00\x01\x00"}, fmt.Sprintf("byte %d: short", len(all)))
	add(map[int]string{90: "\x00\x00\x00\x00"}, fmt.Sprintf("byte %d: form", place(91)))
	add(map[int]string{90: "\x01\x04\x00\x00", 91: strings.Repeat("x", 1025)}, "bytes 1025: range")
	add(map[int]string{90: "\x00\x00\x01\x00", 91: strings.Repeat("x", 65536)}, "bytes 65536: range")
	for s, want := range cases {
		i, err := img.Decode([]byte(s))
		if err == nil || err.Error() != want || !alike(i, img.Image{}) {
			t.Errorf("P1801: Decode(%q): %s, %v; want %s", s, told(i), err, want)
		}
		decodes(t, []byte(s))
	}
	if len(cases) < 120 {
		t.Errorf("only %d cases", len(cases))
	}
}

// TestCounts: counts that are read and are more than Check takes.
func TestCounts(t *testing.T) { // P1801, P6
	part := func(k, entries int) img.Part {
		return img.Part{Name: "p" + strconv.Itoa(k), Code: img.Span{At: 16, Size: 16}, Data: img.Span{At: 16}, Stack: img.Span{At: 16}, Entries: make([]uint32, entries)}
	}
	for n, want := range map[int]string{0: "parts 0: short", 9: "parts 9: long", 63: "parts 63: long", 64: "parts 64: long", 65: "byte 8: long", 66: "byte 8: long"} {
		i := img.Image{Size: 32}
		for k := range n {
			i.Parts = append(i.Parts, part(k, k))
		}
		if f := decodes(t, []byte(encoded(i))); f.Error() != want {
			t.Errorf("P1801, told another way: %d parts: %v", n, &f)
		}
	}
	for n, want := range map[int]string{0: "start 0: name", 8: "start 0: name", 9: "shares 9: long", 64: "shares 64: long", 65: "byte 46: long"} {
		i := small()
		i.Parts[0].Entries, i.Shares = nil, slices.Repeat([]img.Span{{At: 16}}, n)
		at := place(2) + 4 + 2 + 24 + 4
		if f := decodes(t, []byte(encoded(i))); f.Error() != strings.Replace(want, "46", strconv.Itoa(at), 1) {
			t.Errorf("P1801, told another way: %d shares: %v", n, &f)
		}
	}
	for n, want := range map[int]string{1: "entry 0: range", 64: "entry 0: range", 65: "byte 38: long"} {
		i := small()
		i.Parts[0].Entries = make([]uint32, n)
		if f := decodes(t, []byte(encoded(i))); f.Error() != want {
			t.Errorf("P1801, told another way: %d Entries: %v", n, &f)
		}
	}
	for n, want := range map[int]string{1: "init 0: range", 511: "init 0: range", 512: "init 0: range", 513: "byte 50: long"} {
		i := small()
		i.Inits = make([]img.Init, n)
		if f := decodes(t, []byte(encoded(i))); f.Error() != want {
			t.Errorf("P1801, told another way: %d Inits: %v", n, &f)
		}
	}
}

// several answers images of which each byte is to be changed.
func several() []img.Image {
	i := pair()
	i.Inits = append(i.Inits, img.Init{At: 48, Kind: obj.Import, From: 1, Addr: 80}, img.Init{Comp: 1, At: 96, Kind: obj.Share, From: 1, Addr: 144, Perm: 2})
	i.Bytes = []byte("\x00\x01\x02")
	return []img.Image{small(), i, some()}
}

// TestAllCuts: what is left of the bytes of images, from either side.
func TestAllCuts(t *testing.T) { // P1801, P1
	for _, i := range several() {
		s := encoded(i)
		for n := range s {
			if f := decodes(t, []byte(s[:n])); f != (api.Fault{Part: "byte", At: n, Err: api.ErrShort}) {
				t.Errorf("P1801, told another way: %d bytes: %v", n, &f)
			}
			decodes(t, []byte(s[n:]))
			decodes(t, []byte(s+s[:n+1]))
			decodes(t, []byte("HIMG"+s[n:]))
			for end := range 6 {
				decodes(t, []byte(s[:n]+s[min(n+end, len(s)):]))
			}
		}
	}
}

// TestAllChanges: each byte at each place of the bytes of images, and more or
// less bytes there.
func TestAllChanges(t *testing.T) { // P1801, P1
	taken := 0
	for _, i := range several() {
		s := encoded(i)
		for at := range len(s) + 1 {
			for c := range 256 {
				put := string([]byte{byte(c)})
				if decodes(t, []byte(s[:at]+put+s[min(at+1, len(s)):])) == (api.Fault{}) {
					taken++
				}
				if c < 6 || c > 250 || len(s) < 100 {
					decodes(t, []byte(s[:at]+put+s[at:]))
					decodes(t, []byte(s[:at]+put))
				}
			}
		}
	}
	if taken < 5000 {
		t.Errorf("only %d are taken", taken)
	}
}

// TestChanceBytes: bytes of images changed at several places by chance, and
// bytes that are nothing but chance.
func TestChanceBytes(t *testing.T) { // P1801, P1, P3
	c, taken := chance(1801), 0
	bad, good := faulty(), fine()
	edges := []byte{0, 0, 0, 1, 1, 2, 3, 4, 8, 16, 17, 32, 64, 127, 128, 255, 'H', 'a', '9', '_'}
	for range 30000 {
		i := some()
		if c.below(3) == 0 {
			good[c.below(len(good))](&i)
		} else if c.below(4) == 0 {
			bad[c.below(len(bad))].do(&i)
		}
		if len(i.Bytes) > 1000 && c.below(20) > 0 {
			continue
		}
		b := []byte(encoded(i))
		for range c.below(4) {
			b[4+c.below(len(b)-4)] = edges[c.below(len(edges))]
		}
		if decodes(t, b) == (api.Fault{}) {
			taken++
		}
	}
	if taken < 3000 || taken > 25000 {
		t.Errorf("%d are taken", taken)
	}
	for range 30000 {
		b := []byte("HIMG")
		for range c.below(200) {
			b = append(b, edges[c.below(len(edges))*c.below(2)])
		}
		decodes(t, b)
	}
}

// TestGreatBytes: the greatest counts and lengths, and a great many bytes.
func TestGreatBytes(t *testing.T) { // P1801, P1
	s := encoded(great())
	if f := decodes(t, []byte(s)); f != (api.Fault{}) {
		t.Errorf("P1801, told another way: %v", &f)
	}
	decodes(t, []byte(s+"\x00"))
	decodes(t, append([]byte(s), make([]byte, 1<<24)...))
	decodes(t, make([]byte, 1<<24))
	decodes(t, append([]byte("HIMG"), make([]byte, 1<<24)...))
	decodes(t, append([]byte("HIMG"), bytes.Repeat([]byte{255}, 1<<24)...))
	for n := 0; n < len(s); n += 509 {
		decodes(t, []byte(s[:n]))
	}
	for _, change := range []func(i *img.Image){
		func(i *img.Image) { i.Bytes = append(i.Bytes, 0) },
		func(i *img.Image) { i.Size = 65520 },
		func(i *img.Image) { i.Parts = append(i.Parts, i.Parts...) },
		func(i *img.Image) { i.Parts = slices.Repeat(i.Parts, 8) },
		func(i *img.Image) { i.Parts = slices.Repeat(i.Parts, 9) },
		func(i *img.Image) { i.Shares = slices.Repeat(i.Shares, 8) },
		func(i *img.Image) { i.Shares = slices.Repeat(i.Shares, 9) },
		func(i *img.Image) { i.Inits = append(i.Inits, i.Inits[0]) },
		func(i *img.Image) { i.Parts[0].Entries = append(i.Parts[0].Entries, 0) },
		func(i *img.Image) { i.Parts[7].Name = strings.Repeat("a", 255) },
		func(i *img.Image) { i.Parts[7].Name += "12" },
	} {
		x := copied(great())
		change(&x)
		if decodes(t, []byte(encoded(x))) == (api.Fault{}) {
			t.Errorf("P1801, told another way: too great ones are taken: %s", told(x))
		}
	}
}
