package obj

import (
	"math"

	"hasp/api"
)

// head is what the bytes of an object begin with.
const head = "HOBJ"

// numberBytes is how many bytes a number has.
const numberBytes = 4

// What the byte of a Sym is made of.
const (
	dataBit   = 1
	exportBit = 2
)

// Encode answers the bytes of o.
func Encode(o Object) ([]byte, error) {
	if err := Check(o); err != nil {
		return nil, err
	}
	b := putText([]byte(head), o.Name)
	b = putSection(b, o.Code)
	b = putSection(b, o.Data)
	b = putNumber(b, uint32(len(o.Syms)))
	for _, s := range o.Syms {
		b = putSymbol(b, s)
	}
	b = putNumber(b, uint32(len(o.Rels)))
	for _, r := range o.Rels {
		b = putRelocation(b, r)
	}
	return b, nil
}

// Decode answers the object whose bytes b is.
func Decode(b []byte) (Object, error) {
	o, err := read(b)
	if err != nil {
		return Object{}, err
	}
	if err := Check(o); err != nil {
		return Object{}, err
	}
	return o, nil
}

// putText puts s behind b. One byte tells how long s is, as Check takes none
// that is longer.
func putText(b []byte, s string) []byte {
	return append(append(b, byte(len(s))), s...)
}

func putSection(b, s []byte) []byte {
	return append(putNumber(b, uint32(len(s))), s...)
}

// putNumber puts n behind b, the lowest byte first.
func putNumber(b []byte, n uint32) []byte {
	for i := range numberBytes {
		b = append(b, byte(n>>(8*i)))
	}
	return b
}

func putSymbol(b []byte, s Sym) []byte {
	bits := byte(0)
	if s.Data {
		bits |= dataBit
	}
	if s.Export {
		bits |= exportBit
	}
	return putNumber(append(putText(b, s.Name), bits), s.Off)
}

func putRelocation(b []byte, r Rel) []byte {
	b = putNumber(append(b, byte(r.Kind)), r.Off)
	b = putText(putText(b, r.Comp), r.Name)
	return putNumber(b, uint32(r.Perm))
}

// reader reads the parts of b one behind the other, and stands at at. It keeps
// the first error that there is; behind that all that it reads is nought.
type reader struct {
	b   []byte
	at  int
	err error
}

// read answers the object that b tells, not asking whether that may be one.
func read(b []byte) (Object, error) {
	r := &reader{b: b}
	r.begin()
	o := Object{Name: r.text(), Code: r.section(), Data: r.section()}
	for range r.count() {
		o.Syms = append(o.Syms, r.symbol())
	}
	for range r.count() {
		o.Rels = append(o.Rels, r.relocation())
	}
	r.end()
	return o, r.err
}

// begin reads what an object begins with.
func (r *reader) begin() {
	if string(r.take(len(head))) != head {
		r.refuse(0, api.ErrForm)
	}
}

// end refuses what is left.
func (r *reader) end() {
	if r.at < len(r.b) {
		r.refuse(r.at, api.ErrForm)
	}
}

func (r *reader) symbol() Sym {
	name := r.text()
	bits := r.within(1, 0, dataBit|exportBit, api.ErrForm)
	off := r.number(numberBytes)
	return Sym{Name: name, Data: bits&dataBit != 0, Off: off, Export: bits&exportBit != 0}
}

func (r *reader) relocation() Rel {
	kind := r.within(1, Own, Share, api.ErrForm)
	off := r.number(numberBytes)
	comp, name := r.text(), r.text()
	perm := r.within(numberBytes, 0, math.MaxUint16, api.ErrForm)
	return Rel{Kind: int(kind), Off: off, Comp: comp, Name: name, Perm: uint16(perm)}
}

func (r *reader) text() string { return string(r.take(int(r.number(1)))) }

// section copies what it reads, as what is handed in is not kept.
func (r *reader) section() []byte {
	n := r.within(numberBytes, 0, api.MaxSec, api.ErrLong)
	return append([]byte(nil), r.take(int(n))...)
}

func (r *reader) count() uint32 { return r.within(numberBytes, 0, api.MaxSyms, api.ErrLong) }

// within answers the number of n bytes that is next, and refuses one that is
// not least to most.
func (r *reader) within(n int, least, most uint32, wrong api.Errno) uint32 {
	at := r.at
	v := r.number(n)
	if v < least || v > most {
		r.refuse(at, wrong)
		return 0
	}
	return v
}

// number answers the number of n bytes that is next, the lowest byte first.
func (r *reader) number(n int) uint32 {
	v := uint32(0)
	for i, low := range r.take(n) {
		v |= uint32(low) << (8 * i)
	}
	return v
}

// take answers the next n bytes, as they lie in b.
func (r *reader) take(n int) []byte {
	if n > len(r.b)-r.at {
		r.refuse(len(r.b), api.ErrShort)
	}
	if r.err != nil {
		return nil
	}
	r.at += n
	return r.b[r.at-n : r.at]
}

// refuse keeps an error, unless there is one already.
func (r *reader) refuse(at int, wrong api.Errno) {
	if r.err == nil {
		r.err = fault("byte", at, wrong)
	}
}
