package img_test

import (
	"errors"
	"math"
	"slices"
	"strconv"
	"strings"
	"testing"

	"hasp/api"
	"hasp/img"
	"hasp/obj"
)

// some answers an image that has of each what it may have, at the edges too:
// Spans out of order, one of no bytes on another, under another and at the very
// end, Entries at the begin and at the end of a Code, Owns of the ends of their
// sections, Inits at the begin and at the end of a Data.
func some() img.Image {
	return img.Image{
		Size: 1024,
		Parts: []img.Part{
			{Name: "main", Code: img.Span{At: 64, Size: 48}, Data: img.Span{At: 112, Size: 96}, Stack: img.Span{At: 208, Size: 32}, Entries: []uint32{64, 68, 108}},
			{Name: "_234567890abcDEF", Code: img.Span{At: 240, Size: 16}, Data: img.Span{At: 96, Size: 0}, Stack: img.Span{At: 256, Size: 16}, Entries: []uint32{252}},
			{Name: "A", Code: img.Span{At: 16, Size: 16}, Data: img.Span{At: 32, Size: 32}, Stack: img.Span{At: 1024, Size: 0}},
		},
		Shares: []img.Span{{At: 304, Size: 0}, {At: 288, Size: 64}, {At: 1008, Size: 16}},
		Inits: []img.Init{
			{Comp: 2, At: 32, Kind: obj.Own, Data: true, Addr: 64, Perm: api.R | api.W | api.LC | api.SC},
			{Comp: 2, At: 48, Kind: obj.Import, From: 0, Addr: 108},
			{Comp: 0, At: 112, Kind: obj.Own, Addr: 112, Perm: api.R | api.X | api.LC},
			{Comp: 0, At: 128, Kind: obj.Own, Data: true, Addr: 112},
			{Comp: 0, At: 144, Kind: obj.Import, From: 1, Addr: 252},
			{Comp: 0, At: 160, Kind: obj.Share, From: 2, Addr: 1008, Perm: api.R | api.W},
			{Comp: 0, At: 192, Kind: obj.Share, From: 0, Addr: 304, Perm: api.R},
		},
		Start: 0,
		Addr:  68,
		Bytes: []byte("some bytes\x00\xff\x80"),
	}
}

// great answers an image that has the most of all.
func great() img.Image {
	i := img.Image{Size: 65536, Start: 7, Bytes: make([]byte, 65536)}
	for k := range i.Bytes {
		i.Bytes[k] = byte(k*7 ^ k>>8)
	}
	for k := range uint32(8) {
		at := 16 + 8176*k
		p := img.Part{Name: "ABCDEFGHIJKLMN_" + strconv.Itoa(int(k)), Code: img.Span{At: at, Size: 256}, Data: img.Span{At: at + 256, Size: 1024}, Stack: img.Span{At: at + 1280, Size: 3840 - 16*k}}
		for e := range uint32(64) {
			p.Entries = append(p.Entries, at+4*e)
		}
		i.Parts = append(i.Parts, p)
		i.Shares = append(i.Shares, img.Span{At: at + 5120, Size: 16 * k})
	}
	i.Shares[7].Size = 65536 - i.Shares[7].At
	i.Addr = i.Parts[7].Entries[63]
	for k := range 512 {
		comp := k / 64
		x := img.Init{Comp: comp, At: i.Parts[comp].Data.At + uint32(k%64*16), Kind: 1 + k%3}
		switch x.Kind {
		case obj.Own:
			x.Data, x.Addr, x.Perm = k%2 == 0, i.Parts[comp].Data.At, api.LC
		case obj.Import:
			x.From = (comp + 1 + k%7) % 8
			x.Addr = i.Parts[x.From].Entries[k%64]
		case obj.Share:
			x.From = k % 8
			x.Addr, x.Perm = i.Shares[x.From].At, uint16(1+k%5%3)
		}
		i.Inits = append(i.Inits, x)
	}
	return i
}

// copied answers i in memory of its own.
func copied(i img.Image) img.Image {
	i.Parts, i.Shares, i.Inits, i.Bytes = slices.Clone(i.Parts), slices.Clone(i.Shares), slices.Clone(i.Inits), slices.Clone(i.Bytes)
	for k := range i.Parts {
		i.Parts[k].Entries = slices.Clone(i.Parts[k].Entries)
	}
	return i
}

// alike holds two images against each other, not asking Same.
func alike(a, b img.Image) bool {
	if a.Size != b.Size || a.Start != b.Start || a.Addr != b.Addr || string(a.Bytes) != string(b.Bytes) ||
		len(a.Parts) != len(b.Parts) || len(a.Shares) != len(b.Shares) || len(a.Inits) != len(b.Inits) {
		return false
	}
	for k, p := range a.Parts {
		q := b.Parts[k]
		if p.Name != q.Name || [3]img.Span{p.Code, p.Data, p.Stack} != [3]img.Span{q.Code, q.Data, q.Stack} || len(p.Entries) != len(q.Entries) {
			return false
		}
		for e := range p.Entries {
			if p.Entries[e] != q.Entries[e] {
				return false
			}
		}
	}
	for k := range a.Shares {
		if a.Shares[k] != b.Shares[k] {
			return false
		}
	}
	for k := range a.Inits {
		if a.Inits[k] != b.Inits[k] {
			return false
		}
	}
	return true
}

// told keeps what is told of an image short.
func told(i img.Image) string {
	num := func(n uint32) string { return strconv.FormatUint(uint64(n), 10) }
	span := func(s img.Span) string { return num(s.At) + "+" + num(s.Size) }
	all := []string{"size " + num(i.Size) + " parts " + strconv.Itoa(len(i.Parts)) + " shares " + strconv.Itoa(len(i.Shares)) + " inits " + strconv.Itoa(len(i.Inits)) + " start " + strconv.Itoa(i.Start) + " " + num(i.Addr) + " bytes " + strconv.Itoa(len(i.Bytes))}
	for _, p := range i.Parts[:min(len(i.Parts), 8)] {
		s := "part " + strconv.QuoteToASCII(p.Name[:min(len(p.Name), 40)]) + " " + span(p.Code) + " " + span(p.Data) + " " + span(p.Stack) + " of " + strconv.Itoa(len(p.Entries)) + ":"
		for _, e := range p.Entries[:min(len(p.Entries), 8)] {
			s += " " + num(e)
		}
		all = append(all, s)
	}
	for _, x := range i.Shares[:min(len(i.Shares), 8)] {
		all = append(all, "share "+span(x))
	}
	for _, x := range i.Inits[:min(len(i.Inits), 8)] {
		all = append(all, "init "+strconv.Itoa(x.Comp)+" "+num(x.At)+" "+strconv.Itoa(x.Kind)+" "+strconv.FormatBool(x.Data)+" "+strconv.Itoa(x.From)+" "+num(x.Addr)+" "+num(uint32(x.Perm)))
	}
	return strings.Join(all, "\n\t")
}

// same tells whether err is just that Fault; a Fault of no error is none.
func same(err error, want api.Fault) bool {
	if want.Err == nil {
		return err == nil
	}
	var f *api.Fault
	return errors.As(err, &f) && f == err && *f == want && errors.Is(err, want.Err)
}

// chance answers numbers that look as by chance, the same ones each time.
type chance uint64

func (c *chance) below(n int) int {
	*c = *c*6364136223846793005 + 1442695040888963407
	return int(uint64(*c) >> 33 % uint64(n))
}

// equal holds Same against an answer, both ways round, twice.
func equal(t *testing.T, a, b img.Image, want bool) {
	t.Helper()
	for range 2 {
		if img.Same(a, b) != want || img.Same(b, a) != want {
			t.Errorf("P1801: Same is not %v of %s\nand %s", want, told(a), told(b))
		}
	}
}

// others answers images of which each is another one than some() in one thing.
func others() []img.Image {
	var all []img.Image
	add := func(change func(i *img.Image)) {
		i := some()
		change(&i)
		all = append(all, i)
	}
	for _, bit := range []uint32{1, 16, 1 << 16, 1 << 31} {
		add(func(i *img.Image) { i.Size ^= bit })
		add(func(i *img.Image) { i.Addr ^= bit })
		add(func(i *img.Image) { i.Start ^= int(bit) })
		for k := range 12 {
			add(func(i *img.Image) { spanOf(i, k).At ^= bit })
			add(func(i *img.Image) { spanOf(i, k).Size ^= bit })
		}
		for k := range 7 {
			add(func(i *img.Image) { i.Inits[k].Comp ^= int(bit) })
			add(func(i *img.Image) { i.Inits[k].At ^= bit })
			add(func(i *img.Image) { i.Inits[k].Kind ^= int(bit) })
			add(func(i *img.Image) { i.Inits[k].From ^= int(bit) })
			add(func(i *img.Image) { i.Inits[k].Addr ^= bit })
		}
		for k := range 3 {
			add(func(i *img.Image) { i.Parts[0].Entries[k] ^= bit })
		}
		add(func(i *img.Image) { i.Parts[1].Entries[0] ^= bit })
	}
	add(func(i *img.Image) { i.Start = -1 })
	add(func(i *img.Image) { i.Start = math.MinInt })
	for k := range 7 {
		add(func(i *img.Image) { i.Inits[k].Data = !i.Inits[k].Data })
		add(func(i *img.Image) { i.Inits[k].Perm ^= 1 })
		add(func(i *img.Image) { i.Inits[k].Perm ^= 1 << 15 })
		add(func(i *img.Image) { i.Inits = slices.Delete(i.Inits, k, k+1) })
		add(func(i *img.Image) { i.Inits = slices.Insert(i.Inits, k, i.Inits[k]) })
		add(func(i *img.Image) { i.Inits[k], i.Inits[(k+1)%7] = i.Inits[(k+1)%7], i.Inits[k] })
	}
	for k := range 3 {
		add(func(i *img.Image) { i.Parts[k].Name += "_" })
		add(func(i *img.Image) { i.Parts[k].Name = strings.ToLower(i.Parts[k].Name[:1]) + "X" })
		add(func(i *img.Image) { i.Parts[k].Name = "" })
		add(func(i *img.Image) { i.Parts[k].Entries = append(i.Parts[k].Entries, 0) })
		add(func(i *img.Image) { i.Parts[k].Code, i.Parts[k].Data = i.Parts[k].Data, i.Parts[k].Code })
		add(func(i *img.Image) { i.Parts = slices.Delete(i.Parts, k, k+1) })
		add(func(i *img.Image) { i.Parts = slices.Insert(i.Parts, k, i.Parts[k]) })
		add(func(i *img.Image) { i.Parts[k], i.Parts[(k+1)%3] = i.Parts[(k+1)%3], i.Parts[k] })
		add(func(i *img.Image) { i.Shares = slices.Delete(i.Shares, k, k+1) })
		add(func(i *img.Image) { i.Shares = slices.Insert(i.Shares, k, i.Shares[k]) })
		add(func(i *img.Image) { i.Shares[k], i.Shares[(k+1)%3] = i.Shares[(k+1)%3], i.Shares[k] })
	}
	for k := range len(some().Bytes) {
		add(func(i *img.Image) { i.Bytes[k] ^= 128 })
		add(func(i *img.Image) { i.Bytes = i.Bytes[:k] })
	}
	add(func(i *img.Image) { i.Bytes = append(i.Bytes, 0) })
	add(func(i *img.Image) { i.Bytes = nil })
	add(func(i *img.Image) { i.Parts = nil })
	add(func(i *img.Image) { i.Shares = nil })
	add(func(i *img.Image) { i.Inits = nil })
	add(func(i *img.Image) { i.Parts[0].Entries = nil })
	add(func(i *img.Image) { i.Parts[0].Entries = i.Parts[0].Entries[:2] })
	add(func(i *img.Image) { i.Parts[1].Entries = nil })
	return all
}

// spanOf answers the Span of i that has that number.
func spanOf(i *img.Image, k int) *img.Span {
	if k >= 3*len(i.Parts) {
		return &i.Shares[k-3*len(i.Parts)]
	}
	p := &i.Parts[k/3]
	return []*img.Span{&p.Code, &p.Data, &p.Stack}[k%3]
}

func TestSame(t *testing.T) { // P1801, P3
	equal(t, some(), some(), true)
	equal(t, great(), great(), true)
	equal(t, great(), some(), false)
	all := others()
	for k, i := range all {
		equal(t, i, some(), false)
		equal(t, i, copied(i), true)
		for _, other := range all[:k] {
			if want := alike(i, other); img.Same(i, other) != want || img.Same(other, i) != want {
				t.Errorf("P1801: Same is not %v of %s\nand %s", want, told(i), told(other))
			}
		}
	}
	empty := img.Image{Parts: []img.Part{}, Shares: []img.Span{}, Inits: []img.Init{}, Bytes: []byte{}}
	equal(t, empty, img.Image{}, true)
	equal(t, empty, img.Image{Size: 1}, false)
	for _, i := range []img.Image{{Parts: []img.Part{{}}}, {Shares: []img.Span{{}}}, {Inits: []img.Init{{}}}, {Bytes: []byte{0}}, {Parts: []img.Part{{}, {}}}, {Shares: []img.Span{{}, {}}}, {Inits: []img.Init{{}, {}}}, {Bytes: []byte{0, 0}}} {
		equal(t, i, empty, false)
		equal(t, i, img.Image{Parts: []img.Part{{}}}, len(i.Parts) == 1)
		equal(t, i, img.Image{Shares: []img.Span{{}}}, len(i.Shares) == 1)
		equal(t, i, img.Image{Inits: []img.Init{{}}}, len(i.Inits) == 1)
		equal(t, i, img.Image{Bytes: []byte{0}}, len(i.Bytes) == 1)
	}
	none := some()
	none.Parts[2].Entries = []uint32{}
	equal(t, none, some(), true)
	room := some()
	room.Parts, room.Shares = append(room.Parts, img.Part{Name: "z"})[:3], append(room.Shares, img.Span{At: 1})[:3]
	room.Inits, room.Bytes = append(room.Inits, img.Init{Kind: 9})[:7], append(room.Bytes, 9)[:len(room.Bytes)]
	room.Parts[0].Entries = append(room.Parts[0].Entries, 9)[:3]
	equal(t, room, some(), true)
}

// TestGreat: the most that is taken, and far more than that.
func TestGreat(t *testing.T) { // P1801, P1
	i := great()
	if f := agrees(t, i); f != (api.Fault{}) {
		t.Fatalf("P1801, told another way: %v", &f)
	}
	b, err := img.Encode(i)
	if err != nil {
		t.Fatalf("P1801: %v", err)
	}
	decodes(t, b)
	const lots = 1 << 20
	for _, c := range []struct {
		do   func(i *img.Image)
		want string
	}{
		{func(i *img.Image) { i.Bytes = make([]byte, lots) }, "bytes 1048576: range"},
		{func(i *img.Image) { i.Parts = slices.Repeat(i.Parts, lots/8) }, "parts 1048576: long"},
		{func(i *img.Image) { i.Shares = slices.Repeat(i.Shares, lots/8) }, "shares 1048576: long"},
		{func(i *img.Image) { i.Inits = slices.Repeat(i.Inits, lots/512) }, "inits 1048576: long"},
		{func(i *img.Image) { i.Parts[7].Entries = slices.Repeat(i.Parts[7].Entries, lots/64) }, "part 7: long"},
		{func(i *img.Image) { i.Parts[7].Name = strings.Repeat("a", lots) }, "part 7: name"},
		{func(i *img.Image) { i.Parts[0].Name = strings.Repeat("\xff", lots) }, "part 0: name"},
		{func(i *img.Image) { i.Inits[511].At = math.MaxUint32 - 15 }, "init 511: range"},
		{func(i *img.Image) { i.Inits[511].Comp = math.MaxInt }, "init 511: range"},
		{func(i *img.Image) { i.Inits[511].Comp = math.MinInt }, "init 511: range"},
		{func(i *img.Image) { i.Start = math.MinInt }, "start " + strconv.Itoa(math.MinInt) + ": range"},
		{func(i *img.Image) { i.Start = math.MaxInt }, "start " + strconv.Itoa(math.MaxInt) + ": range"},
	} {
		x := copied(i)
		c.do(&x)
		if f := agrees(t, x); f.Error() != c.want {
			t.Errorf("P1801, told another way: %v; want %s", &f, c.want)
		}
		equal(t, x, i, false)
		equal(t, x, copied(x), true)
	}
}
