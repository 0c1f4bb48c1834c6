package img

import (
	"math"

	"hasp/api"
)

// head is what the bytes of an image begin with.
const head = "HIMG"

// numberBytes is how many bytes a number has.
const numberBytes = 4

// maxRead is how many parts, shares or Entries are read at the most; whether
// there may be as many is Check's.
const maxRead = 64

// Encode answers the bytes of i.
func Encode(i Image) ([]byte, error) {
	if err := Check(i); err != nil {
		return nil, err
	}
	b := putNumbers([]byte(head), i.Size, uint32(len(i.Parts)))
	for _, p := range i.Parts {
		b = putPart(b, p)
	}
	b = putNumbers(b, uint32(len(i.Shares)))
	for _, s := range i.Shares {
		b = putSpan(b, s)
	}
	b = putNumbers(b, uint32(len(i.Inits)))
	for _, x := range i.Inits {
		b = putInit(b, x)
	}
	b = putNumbers(b, uint32(i.Start), i.Addr, uint32(len(i.Bytes)))
	return append(b, i.Bytes...), nil
}

// Decode answers the image whose bytes b is.
func Decode(b []byte) (Image, error) {
	i, err := read(b)
	if err != nil {
		return Image{}, err
	}
	if err := Check(i); err != nil {
		return Image{}, err
	}
	return i, nil
}

// putNumbers puts numbers behind b, the lowest byte of each first.
func putNumbers(b []byte, all ...uint32) []byte {
	for _, n := range all {
		for i := range numberBytes {
			b = append(b, byte(n>>(8*i)))
		}
	}
	return b
}

// putPart puts p behind b. One byte tells how long its Name is, as Check takes
// none that is longer.
func putPart(b []byte, p Part) []byte {
	b = append(append(b, byte(len(p.Name))), p.Name...)
	for _, s := range []Span{p.Code, p.Data, p.Stack} {
		b = putSpan(b, s)
	}
	return putNumbers(putNumbers(b, uint32(len(p.Entries))), p.Entries...)
}

func putSpan(b []byte, s Span) []byte { return putNumbers(b, s.At, s.Size) }

func putInit(b []byte, x Init) []byte {
	b = putNumbers(b, uint32(x.Comp), x.At, uint32(x.Kind))
	data := byte(0)
	if x.Data {
		data = 1
	}
	return putNumbers(append(b, data), uint32(x.From), x.Addr, uint32(x.Perm))
}

// reader reads the parts of b one behind the other, and stands at at. It keeps
// the first error that there is; behind that all that it reads is nought.
type reader struct {
	b   []byte
	at  int
	err error
}

// read answers the image that b tells, not asking whether that may be one.
func read(b []byte) (Image, error) {
	r := &reader{b: b}
	r.begin()
	i := Image{Size: r.number(numberBytes)}
	for range r.count(maxRead) {
		i.Parts = append(i.Parts, r.part())
	}
	for range r.count(maxRead) {
		i.Shares = append(i.Shares, r.span())
	}
	for range r.count(maxInits) {
		i.Inits = append(i.Inits, r.initial())
	}
	i.Start, i.Addr = r.index(), r.number(numberBytes)
	// What is handed in is not kept.
	i.Bytes = append(i.Bytes, r.take(r.count(api.MaxMem))...)
	r.end()
	return i, r.err
}

// begin reads what an image begins with.
func (r *reader) begin() {
	if string(r.take(len(head))) != head {
		r.refuse(0, api.ErrForm)
	}
}

// end refuses what is left.
func (r *reader) end() {
	if r.at < len(r.b) {
		r.refuse(r.at, api.ErrForm)
	}
}

func (r *reader) part() Part {
	p := Part{Name: r.text(), Code: r.span(), Data: r.span(), Stack: r.span()}
	for range r.count(maxRead) {
		p.Entries = append(p.Entries, r.number(numberBytes))
	}
	return p
}

func (r *reader) span() Span { return Span{At: r.number(numberBytes), Size: r.number(numberBytes)} }

func (r *reader) initial() Init {
	return Init{
		Comp: r.index(), At: r.number(numberBytes), Kind: r.index(), Data: r.upTo(1, 1, api.ErrForm) != 0,
		From: r.index(), Addr: r.number(numberBytes), Perm: uint16(r.upTo(numberBytes, math.MaxUint16, api.ErrForm)),
	}
}

func (r *reader) text() string { return string(r.take(int(r.number(1)))) }

// index reads a number without a sign for what has one.
func (r *reader) index() int { return int(r.upTo(numberBytes, math.MaxInt32, api.ErrOver)) }

// count reads how many follow.
func (r *reader) count(most uint32) int { return int(r.upTo(numberBytes, most, api.ErrLong)) }

// upTo answers the number of n bytes that is next, and refuses one above most.
func (r *reader) upTo(n int, most uint32, wrong api.Errno) uint32 {
	at := r.at
	v := r.number(n)
	if v > most {
		r.refuse(at, wrong)
		return 0
	}
	return v
}

// number answers the number of n bytes that is next, the lowest byte first.
func (r *reader) number(n int) uint32 {
	v := uint32(0)
	for i, low := range r.take(n) {
		v |= uint32(low) << (8 * i)
	}
	return v
}

// take answers the next n bytes, as they lie in b.
func (r *reader) take(n int) []byte {
	if n > len(r.b)-r.at {
		r.refuse(len(r.b), api.ErrShort)
	}
	if r.err != nil {
		return nil
	}
	r.at += n
	return r.b[r.at-n : r.at]
}

// refuse keeps an error, unless there is one already.
func (r *reader) refuse(at int, wrong api.Errno) {
	if r.err == nil {
		r.err = fault("byte", at, wrong)
	}
}
