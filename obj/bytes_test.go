package obj_test

import (
	"bytes"
	"encoding/binary"
	"math"
	"slices"
	"strconv"
	"strings"
	"testing"
	"unsafe"

	"hasp/api"
	"hasp/obj"
)

// encoded tells P1501's bytes of o another way.
func encoded(o obj.Object) string {
	var s strings.Builder
	number := func(n int) { s.Write(binary.LittleEndian.AppendUint32(nil, uint32(n))) }
	text := func(x string) { s.WriteString(string([]byte{byte(len(x))}) + x) }
	s.WriteString("HOBJ")
	text(o.Name)
	for _, x := range [][]byte{o.Code, o.Data} {
		number(len(x))
		s.Write(x)
	}
	number(len(o.Syms))
	for _, x := range o.Syms {
		text(x.Name)
		s.WriteByte(map[[2]bool]byte{{false, false}: 0, {true, false}: 1, {false, true}: 2, {true, true}: 3}[[2]bool{x.Data, x.Export}])
		number(int(x.Off))
	}
	number(len(o.Rels))
	for _, x := range o.Rels {
		s.WriteByte(byte(x.Kind))
		number(int(x.Off))
		text(x.Comp)
		text(x.Name)
		number(int(x.Perm))
	}
	return s.String()
}

// A field is some bytes that are to be read: how many, and what is done with
// them, which may tell an error, and more fields that are read next.
type field struct {
	size int
	do   func(b []byte) (api.Errno, []field)
}

func number(least, most uint32, wrong api.Errno, do func(n uint32) []field) field {
	return field{4, func(b []byte) (api.Errno, []field) {
		n := binary.LittleEndian.Uint32(b)
		if n < least || n > most {
			return wrong, nil
		}
		return 0, do(n)
	}}
}

func one(taken string, do func(c byte)) field {
	return field{1, func(b []byte) (api.Errno, []field) {
		do(b[0])
		if !strings.Contains(taken, string(b)) {
			return api.ErrForm, nil
		}
		return 0, nil
	}}
}

func text(to *string) field {
	return field{1, func(b []byte) (api.Errno, []field) {
		return 0, []field{{int(b[0]), func(b []byte) (api.Errno, []field) {
			*to = string(b)
			return 0, nil
		}}}
	}}
}

func section(to *[]byte) field {
	return number(0, 16384, api.ErrLong, func(n uint32) []field {
		return []field{{int(n), func(b []byte) (api.Errno, []field) {
			*to = b
			return 0, nil
		}}}
	})
}

func offset(to *uint32) field {
	return number(0, math.MaxUint32, 0, func(n uint32) []field {
		*to = n
		return nil
	})
}

func symFields(s *obj.Sym) []field {
	return []field{text(&s.Name), one("\x00\x01\x02\x03", func(c byte) { s.Data, s.Export = c%2 == 1, c > 1 }), offset(&s.Off)}
}

func relFields(r *obj.Rel) []field {
	return []field{one("\x01\x02\x03", func(c byte) { r.Kind = int(c) }), offset(&r.Off), text(&r.Comp), text(&r.Name),
		number(0, 65535, api.ErrForm, func(n uint32) []field {
			r.Perm = uint16(n)
			return nil
		})}
}

// wanted tells P1501's Decode another way: fields wait to be read, and one that
// is read may put more ahead of them.
func wanted(b []byte) (obj.Object, api.Fault) {
	o := obj.Object{}
	wait := []field{
		{4, func(b []byte) (api.Errno, []field) {
			if string(b) != "HOBJ" {
				return api.ErrForm, nil
			}
			return 0, nil
		}},
		text(&o.Name), section(&o.Code), section(&o.Data),
		number(0, 256, api.ErrLong, func(n uint32) []field {
			o.Syms = make([]obj.Sym, n)
			var more []field
			for i := range o.Syms {
				more = append(more, symFields(&o.Syms[i])...)
			}
			return more
		}),
		number(0, 256, api.ErrLong, func(n uint32) []field {
			o.Rels = make([]obj.Rel, n)
			var more []field
			for i := range o.Rels {
				more = append(more, relFields(&o.Rels[i])...)
			}
			return more
		}),
	}
	at := 0
	for len(wait) > 0 {
		next := wait[0]
		if at+next.size > len(b) {
			return obj.Object{}, api.Fault{Part: "byte", At: len(b), Err: api.ErrShort}
		}
		wrong, more := next.do(slices.Clone(b[at : at+next.size]))
		if wrong != 0 {
			return obj.Object{}, api.Fault{Part: "byte", At: at, Err: wrong}
		}
		at += next.size
		wait = append(more, wait[1:]...)
	}
	if at != len(b) {
		return obj.Object{}, api.Fault{Part: "byte", At: at, Err: api.ErrForm}
	}
	if all := wrongs(o); len(all) > 0 {
		return obj.Object{}, all[0]
	}
	return o, api.Fault{}
}

// decodes holds Decode(b) against the promises, twice, and answers the Fault
// that there is. What it takes, Encode answers again.
func decodes(t *testing.T, b []byte) api.Fault {
	t.Helper()
	want, f := wanted(b)
	for range 2 {
		o, err := obj.Decode(b)
		if !same(err, f) || !alike(o, want) {
			t.Fatalf("P1501: Decode(%s) of %d bytes: %s, %v; want %s, %v", strconv.QuoteToASCII(string(b[:min(len(b), 300)])), len(b), told(o), err, told(want), &f)
		}
		if err != nil {
			continue
		}
		if again, err := obj.Encode(o); !bytes.Equal(again, b) || err != nil {
			t.Fatalf("P1501: Encode of what Decode answers: %q, %v", again, err)
		}
	}
	return f
}

// written is the bytes of some(), part by part.
var written = []string{
	"HOBJ", "\x04main", "\x0c\x00\x00\x00", "ABCDEFGHIJKL", "\x40\x00\x00\x00", "0123456789abcdefghijklmnopqrstuvwxyz-0123456789-ABCDEFGHIJKLMNOP",
	"\x05\x00\x00\x00",
	"\x03_in", "\x02", "\x00\x00\x00\x00",
	"\x01a", "\x02", "\x08\x00\x00\x00",
	"\x01b", "\x00", "\x0c\x00\x00\x00",
	"\x01c", "\x01", "\x40\x00\x00\x00",
	"\x01d", "\x01", "\x07\x00\x00\x00",
	"\x04\x00\x00\x00",
	"\x01", "\x00\x00\x00\x00", "\x00", "\x01b", "\x0d\x00\x00\x00",
	"\x01", "\x10\x00\x00\x00", "\x00", "\x01d", "\x1b\x00\x00\x00",
	"\x02", "\x20\x00\x00\x00", "\x05other", "\x01f", "\x00\x00\x00\x00",
	"\x03", "\x30\x00\x00\x00", "\x00", "\x01s", "\x00\x00\x00\x00",
}

// place answers where the part of written that has that number begins.
func place(part int) int { return len(strings.Join(written[:part], "")) }

// with answers written, parts of it changed.
func with(change map[int]string) string {
	l := slices.Clone(written)
	for part, s := range change {
		l[part] = s
	}
	return strings.Join(l, "")
}

func TestBytes(t *testing.T) { // P1501
	for s, o := range map[string]obj.Object{
		with(nil):                                some(),
		"HOBJ\x01_" + strings.Repeat("\x00", 16): {Name: "_"},
		"HOBJ\x01Q\x04\x00\x00\x00\x00\xff\x80\n" + strings.Repeat("\x00", 12):                         {Name: "Q", Code: []byte{0, 255, 128, 10}},
		"HOBJ\x01q\x00\x00\x00\x00\x10\x00\x00\x00HOBJHOBJHOBJHOBJ" + strings.Repeat("\x00", 8):        {Name: "q", Data: []byte("HOBJHOBJHOBJHOBJ")},
		"HOBJ\x01q\x00\x00\x00\x00\x00\x00\x00\x00\x01\x00\x00\x00\x01x\x00" + string(make([]byte, 8)): {Name: "q", Syms: []obj.Sym{{Name: "x"}}},
	} {
		b, err := obj.Encode(o)
		if string(b) != s || err != nil {
			t.Errorf("P1501: Encode(%s): %q, %v; want %q", told(o), b, err, s)
		}
		x, err := obj.Decode([]byte(s))
		if !alike(x, o) || err != nil {
			t.Errorf("P1501: Decode(%q): %s, %v", s, told(x), err)
		}
		if encoded(o) != s || decodes(t, []byte(s)) != (api.Fault{}) {
			t.Errorf("P1501, told another way: %q", s)
		}
	}
}

func TestNoBytes(t *testing.T) { // P1501, P4, P6
	at := func(part int, of error) api.Fault { return api.Fault{Part: "byte", At: place(part), Err: of} }
	all := with(nil)
	for s, want := range map[string]api.Fault{
		"":               {Part: "byte", At: 0, Err: api.ErrShort},
		"H":              {Part: "byte", At: 1, Err: api.ErrShort},
		"xyz":            {Part: "byte", At: 3, Err: api.ErrShort},
		"HOBJ":           {Part: "byte", At: 4, Err: api.ErrShort},
		"HOBI":           {Part: "byte", At: 0, Err: api.ErrForm},
		"hobj":           {Part: "byte", At: 0, Err: api.ErrForm},
		"HIMG" + all:     {Part: "byte", At: 0, Err: api.ErrForm},
		" " + all:        {Part: "byte", At: 0, Err: api.ErrForm},
		all + "\x00":     {Part: "byte", At: len(all), Err: api.ErrForm},
		all + all:        {Part: "byte", At: len(all), Err: api.ErrForm},
		all[:len(all)-1]: {Part: "byte", At: len(all) - 1, Err: api.ErrShort},

		with(map[int]string{2: "\x01\x40\x00\x00"}):                at(2, api.ErrLong),
		with(map[int]string{2: "\x00\x00\x00\x80"}):                at(2, api.ErrLong),
		with(map[int]string{2: "\xff\xff\xff\xff"}):                at(2, api.ErrLong),
		with(map[int]string{2: "\x00\x40\x00\x00"}):                {Part: "byte", At: len(all), Err: api.ErrShort},
		with(map[int]string{4: "\x01\x40\x00\x00"}):                at(4, api.ErrLong),
		with(map[int]string{4: "\x00\x00\x01\x00"}):                at(4, api.ErrLong),
		with(map[int]string{4: "\xfe\xff\xff\xff"}):                at(4, api.ErrLong),
		with(map[int]string{4: "\x00\x40\x00\x00"}):                {Part: "byte", At: len(all), Err: api.ErrShort},
		with(map[int]string{6: "\x01\x01\x00\x00"}):                at(6, api.ErrLong),
		with(map[int]string{6: "\x05\x00\x00\x01"}):                at(6, api.ErrLong),
		with(map[int]string{6: "\xff\xff\xff\xff"}):                at(6, api.ErrLong),
		with(map[int]string{8: "\x04"}):                            at(8, api.ErrForm),
		with(map[int]string{8: "\xff", 11: "\x04"}):                at(8, api.ErrForm),
		with(map[int]string{11: "\x80"}):                           at(11, api.ErrForm),
		with(map[int]string{22: "\x01\x01\x00\x00"}):               at(22, api.ErrLong),
		with(map[int]string{22: "\x00\x00\x00\x80"}):               at(22, api.ErrLong),
		with(map[int]string{23: "\x00"}):                           at(23, api.ErrForm),
		with(map[int]string{23: "\x04"}):                           at(23, api.ErrForm),
		with(map[int]string{38: "\x81"}):                           at(38, api.ErrForm),
		with(map[int]string{27: "\x0d\x00\x01\x00"}):               at(27, api.ErrForm),
		with(map[int]string{42: "\x00\x00\x00\x80"}):               at(42, api.ErrForm),
		with(map[int]string{42: "\xff\xff\xff\xff"}) + "x":         at(42, api.ErrForm),
		with(map[int]string{1: "\x049999", 2: "\xff\xff\xff\xff"}): at(2, api.ErrLong),
		with(map[int]string{8: "\x04", 22: "\xff\xff\xff\xff"}):    at(8, api.ErrForm),
		with(map[int]string{42: "\x00\x00\x01"}):                   {Part: "byte", At: len(all) - 1, Err: api.ErrShort},
		with(map[int]string{1: "\x049999", 42: "\x00\x00\x01"}):    {Part: "byte", At: len(all) - 1, Err: api.ErrShort},
		with(map[int]string{1: "\x049999"}) + "\x00":               {Part: "byte", At: len(all), Err: api.ErrForm},

		with(map[int]string{1: "\x049999"}):                           {Part: "name", At: 0, Err: api.ErrName},
		with(map[int]string{1: "\x00"}):                               {Part: "name", At: 0, Err: api.ErrName},
		with(map[int]string{1: "\xff" + strings.Repeat("a", 255)}):    {Part: "name", At: 0, Err: api.ErrName},
		with(map[int]string{2: "\x0b\x00\x00\x00", 3: "ABCDEFGHIJK"}): {Part: "code", At: 11, Err: api.ErrAlign},
		with(map[int]string{4: "\x01\x00\x00\x00", 5: "-"}):           {Part: "data", At: 1, Err: api.ErrAlign},
		with(map[int]string{7: "\x03in_"}):                            {Part: "sym", At: 1, Err: api.ErrTwice},
		with(map[int]string{7: "\x11_2345678901234567"}):              {Part: "sym", At: 0, Err: api.ErrName},
		with(map[int]string{8: "\x03"}):                               {Part: "sym", At: 0, Err: api.ErrKind},
		with(map[int]string{9: "\x00\x00\x00\x01"}):                   {Part: "sym", At: 0, Err: api.ErrRange},
		with(map[int]string{23: "\x02"}):                              {Part: "rel", At: 0, Err: api.ErrName},
		with(map[int]string{24: "\x00\x00\x00\x01"}):                  {Part: "rel", At: 0, Err: api.ErrRange},
		with(map[int]string{27: "\xff\xff\x00\x00"}):                  {Part: "rel", At: 0, Err: api.ErrPerm},
		with(map[int]string{37: "\xff\xff\x00\x00"}):                  {Part: "rel", At: 2, Err: api.ErrKind},
		with(map[int]string{40: "\x01s"}):                             {Part: "rel", At: 3, Err: api.ErrKind},
	} {
		if f := decodes(t, []byte(s)); f != want {
			t.Errorf("P1501, told another way: %q: %v; want %v", s, &f, &want)
		}
	}
}

// short answers objects whose bytes are few.
func short() []obj.Object {
	return []obj.Object{
		{Name: "a"},
		{Name: "ab", Code: []byte("\x00\x01\x02\x03"), Syms: []obj.Sym{{Name: "x", Export: true}, {Name: "y", Off: 4}}},
		{Name: "b", Data: []byte("0123456789abcdef"), Syms: []obj.Sym{{Name: "x", Data: true, Off: 16}}, Rels: []obj.Rel{{Kind: obj.Own, Name: "x", Perm: 27}}},
		{Name: "c", Data: make([]byte, 32), Rels: []obj.Rel{{Kind: obj.Import, Comp: "d", Name: "e"}, {Kind: obj.Share, Off: 16, Name: "f"}}},
		some(),
	}
}

// TestAllCuts: what is left of the bytes of objects, from either side.
func TestAllCuts(t *testing.T) { // P1501, P1
	for _, o := range short() {
		s := encoded(o)
		for n := range s {
			if f := decodes(t, []byte(s[:n])); f != (api.Fault{Part: "byte", At: n, Err: api.ErrShort}) {
				t.Errorf("P1501, told another way: %d bytes: %v", n, &f)
			}
			decodes(t, []byte(s[n:]))
			decodes(t, []byte(s+s[:n+1]))
			decodes(t, []byte("HOBJ"+s[n:]))
			for end := range 5 {
				decodes(t, []byte(s[:n]+s[min(n+end, len(s)):]))
			}
		}
	}
}

// TestAllChanges: each byte at each place of the bytes of objects, and more or
// less bytes there.
func TestAllChanges(t *testing.T) { // P1501, P1
	taken := 0
	for _, o := range short() {
		s := encoded(o)
		for i := range len(s) + 1 {
			for c := range 256 {
				put := string([]byte{byte(c)})
				if decodes(t, []byte(s[:i]+put+s[min(i+1, len(s)):])) == (api.Fault{}) {
					taken++
				}
				if c < 6 || c > 250 || len(s) < 100 {
					decodes(t, []byte(s[:i]+put+s[i:]))
					decodes(t, []byte(s[:i]+put))
				}
			}
		}
	}
	if taken < 10000 {
		t.Errorf("only %d are taken", taken)
	}
}

// TestChanceBytes: bytes of objects changed at several places by chance, and
// bytes that are nothing but chance.
func TestChanceBytes(t *testing.T) { // P1501, P1, P3
	c, taken := chance(1501), 0
	bad, good := faulty(), fine()
	edges := []byte{0, 0, 0, 1, 1, 2, 3, 4, 5, 8, 16, 17, 64, 127, 128, 255, 'H', 'a', '9', '_'}
	for range 60000 {
		o := some()
		if c.below(3) == 0 {
			good[c.below(len(good))](&o)
		} else if c.below(4) == 0 {
			bad[c.below(len(bad))].do(&o)
		}
		if len(o.Code)+len(o.Data) > 1000 && c.below(20) > 0 {
			continue
		}
		b := []byte(encoded(o))
		for range c.below(4) {
			b[4+c.below(len(b)-4)] = edges[c.below(len(edges))]
		}
		if decodes(t, b) == (api.Fault{}) {
			taken++
		}
	}
	if taken < 5000 || taken > 50000 {
		t.Errorf("%d are taken", taken)
	}
	for range 60000 {
		b := []byte("HOBJ")
		for range c.below(90) {
			b = append(b, edges[c.below(len(edges))*c.below(2)])
		}
		decodes(t, b)
	}
}

// TestGreatBytes: the greatest counts and lengths, and a great many bytes.
func TestGreatBytes(t *testing.T) { // P1501, P1
	s := encoded(great())
	decodes(t, []byte(s))
	decodes(t, []byte(s+"\x00"))
	decodes(t, append([]byte(s), make([]byte, 1<<24)...))
	decodes(t, make([]byte, 1<<24))
	decodes(t, append([]byte("HOBJ"), bytes.Repeat([]byte{255}, 1<<24)...))
	for n := 0; n < len(s); n += 509 {
		decodes(t, []byte(s[:n]))
	}
	o := great()
	for _, change := range []func(o *obj.Object){
		func(o *obj.Object) { o.Code = append(o.Code, 0) },
		func(o *obj.Object) { o.Data = append(o.Data, 0) },
		func(o *obj.Object) { o.Syms = append(o.Syms, obj.Sym{Name: "a"}) },
		func(o *obj.Object) { o.Rels = append(o.Rels, obj.Rel{Kind: obj.Share, Off: 1 << 20, Name: "a"}) },
		func(o *obj.Object) { o.Code = o.Code[:16383] },
		func(o *obj.Object) { o.Data = o.Data[:16383] },
		func(o *obj.Object) { o.Name = strings.Repeat("a", 255) },
		func(o *obj.Object) { o.Syms[255].Name = strings.Repeat("a", 255) },
		func(o *obj.Object) { o.Rels[1].Comp = strings.Repeat("a", 255) },
		func(o *obj.Object) { o.Rels[255].Comp = strings.Repeat("a", 255) },
		func(o *obj.Object) { o.Rels[2].Name = strings.Repeat("a", 200) },
	} {
		x := copied(o)
		change(&x)
		if decodes(t, []byte(encoded(x))) == (api.Fault{}) {
			t.Errorf("P1501, told another way: too great ones are taken")
		}
	}
}

// piece is some memory.
type piece struct {
	of         string
	begin, end uintptr
}

// room tells where a slice lies, its spare room too.
func room[T any](of string, s []T) piece {
	var one T
	begin := uintptr(unsafe.Pointer(unsafe.SliceData(s)))
	return piece{of, begin, begin + uintptr(cap(s))*unsafe.Sizeof(one)}
}

// letters tells where a string lies.
func letters(s string) piece {
	begin := uintptr(unsafe.Pointer(unsafe.StringData(s)))
	return piece{strconv.Quote(s), begin, begin + uintptr(len(s))}
}

// apart fails if two of some pieces share any of their memory.
func apart(t *testing.T, all []piece) {
	t.Helper()
	for i, p := range all {
		for _, q := range all[:i] {
			if p.begin < q.end && q.begin < p.end {
				t.Errorf("P2: %s shares memory with %s", p.of, q.of)
			}
		}
	}
}

// lists answers where the lists of an object lie.
func lists(of string, o obj.Object) []piece {
	return []piece{room(of+" Code", o.Code), room(of+" Data", o.Data), room(of+" Syms", o.Syms), room(of+" Rels", o.Rels)}
}

// TestApart: what is answered shares no memory with what was handed in, nor
// with any other answer.
func TestApart(t *testing.T) { // P2
	o, b := some(), []byte(encoded(some()))
	all := append(lists("handed in", o), room("bytes handed in", b))
	for i := range 8 {
		n := strconv.Itoa(i)
		bytes, err := obj.Encode(o)
		if err != nil {
			t.Fatal(err)
		}
		x, err := obj.Decode(b)
		if err != nil {
			t.Fatal(err)
		}
		all = append(append(all, lists(n, x)...), room("bytes "+n, bytes))
	}
	apart(t, all)
	x, _ := obj.Decode(b)
	texts := []string{x.Name}
	for _, s := range x.Syms {
		texts = append(texts, s.Name)
	}
	for _, r := range x.Rels {
		texts = append(texts, r.Comp, r.Name)
	}
	for _, s := range texts {
		apart(t, []piece{letters(s), room("bytes handed in", b)})
	}
}

// TestNothingKept: an answer stays as it is, whatever comes of what was handed
// in; nor does an empty list lie there.
func TestNothingKept(t *testing.T) { // P2
	b := []byte(encoded(some()))
	o, err := obj.Decode(b)
	if err != nil {
		t.Fatal(err)
	}
	clear(b)
	if !alike(o, some()) {
		t.Errorf("P2: Decode's answer hangs on what was handed in: %s", told(o))
	}
	from := some()
	b, err = obj.Encode(from)
	if err != nil {
		t.Fatal(err)
	}
	clear(from.Code)
	clear(from.Data)
	clear(from.Syms)
	clear(from.Rels)
	if string(b) != with(nil) {
		t.Errorf("P2: Encode's answer hangs on what was handed in: %q", b)
	}
	b = []byte(encoded(obj.Object{Name: "a"}))
	o, err = obj.Decode(b)
	if err != nil {
		t.Fatal(err)
	}
	begin := uintptr(unsafe.Pointer(unsafe.SliceData(b)))
	for _, p := range lists("empty", o) {
		if p.begin >= begin && p.begin < begin+uintptr(cap(b)) {
			t.Errorf("P2: %s lies in what was handed in", p.of)
		}
	}
}

// TestNothingIsChanged: what is handed in stays as it is, its spare room too.
func TestNothingIsChanged(t *testing.T) { // P2, P5
	spare := func(o obj.Object) obj.Object {
		o.Code, o.Data = append(o.Code, "spare code"...)[:len(o.Code)], append(o.Data, "spare data"...)[:len(o.Data)]
		o.Syms = append(o.Syms, obj.Sym{Name: "spare", Off: 3})[:len(o.Syms)]
		o.Rels = append(o.Rels, obj.Rel{Kind: 7, Name: "spare"})[:len(o.Rels)]
		return o
	}
	whole := func(o obj.Object) obj.Object {
		o.Code, o.Data, o.Syms, o.Rels = o.Code[:cap(o.Code)], o.Data[:cap(o.Data)], o.Syms[:cap(o.Syms)], o.Rels[:cap(o.Rels)]
		return o
	}
	all := changes()
	for _, do := range fine() {
		o := some()
		do(&o)
		all = append(all, o)
	}
	for _, c := range faulty() {
		o := some()
		c.do(&o)
		all = append(all, o)
	}
	for _, o := range all {
		o = spare(o)
		kept := copied(whole(o))
		obj.Check(o)
		obj.Find(o, "c")
		obj.Find(o, "none")
		obj.Same(o, some())
		obj.Encode(o)
		if !alike(whole(o), kept) {
			t.Fatalf("P2: changed: %s", told(o))
		}
		b := append([]byte(encoded(o)), "spare bytes"...)
		was := string(b[:cap(b)])
		obj.Decode(b[:len(b)-11])
		obj.Decode(b[:len(b)/2])
		obj.Decode(b)
		if string(b[:cap(b)]) != was {
			t.Fatalf("P2: the bytes of this are changed: %s", told(o))
		}
	}
}

// TestNothingBeside: beside an error there is nothing.
func TestNothingBeside(t *testing.T) { // P4
	for _, c := range faulty() {
		o := some()
		c.do(&o)
		if b, err := obj.Encode(o); len(b) != 0 || err == nil {
			t.Errorf("P4: Encode: %d bytes beside %v", len(b), err)
		}
		if slices.ContainsFunc(o.Rels, func(r obj.Rel) bool { return r.Kind < 0 || r.Kind > 255 }) {
			continue // no byte tells such a Kind
		}
		if x, err := obj.Decode([]byte(encoded(o))); !alike(x, obj.Object{}) || err == nil {
			t.Errorf("P4: Decode: %s beside %v", told(x), err)
		}
	}
}
