package pack_test

import (
	"testing"

	"hasp/cap"
	"hasp/pack"
)

const last = 1<<32 - 1

// words holds the ends of all numbers of 32 bits, and each byte's own.
func words() []uint32 {
	return []uint32{0, 1, 0x7F, 0x80, 0xFF, 0x100, 0xFF00, 0xFFFF, 1 << 16, 0xFF0000, 1<<24 - 1, 1 << 24, 0xFF000000, 1<<31 - 1, 1 << 31, 0x12345678, last - 1, last}
}

// halves holds the same of 16 bits: permissions and types that are none too.
func halves() []uint16 {
	return []uint16{0, 1, 2, 127, 128, 0xFF, 0x100, 1023, 1024, 0x1234, 1<<15 - 1, 1 << 15, 0xFF00, 1<<16 - 1}
}

// caps: all bounds, some of them upside down, with and without a Tag.
func caps() []cap.Cap {
	list := []cap.Cap{}
	for i, base := range words() {
		for j, top := range words() {
			for k, addr := range words() {
				for l, perm := range halves() {
					kind := halves()[(i+j+k+l)%len(halves())]
					list = append(list, cap.Cap{Tag: (i+j+k+l)%2 == 0, Base: base, Top: top, Addr: addr, Perm: perm, Type: kind})
				}
			}
		}
	}
	return list
}

// wantPut tells P301 byte by byte, by division.
func wantPut(c cap.Cap) [16]byte {
	low := func(v, power uint32) byte { return byte(v / power % 256) }
	b := [16]byte{}
	for i, power := range []uint32{1, 1 << 8, 1 << 16, 1 << 24} {
		b[i], b[4+i], b[8+i] = low(c.Base, power), low(c.Top, power), low(c.Addr, power)
	}
	for i, power := range []uint32{1, 1 << 8} {
		b[12+i], b[14+i] = low(uint32(c.Perm), power), low(uint32(c.Type), power)
	}
	return b
}

func TestPutAndGet(t *testing.T) { // P301, P3
	for _, c := range caps() {
		want := wantPut(c)
		for range 2 {
			if b := pack.Put(c); b != want {
				t.Fatalf("Put(%+v): %x; want %x", c, b, want)
			}
			if back := pack.Get(want, c.Tag); back != c {
				t.Fatalf("Get(%x, %v): %+v; want %+v", want, c.Tag, back, c)
			}
		}
	}
}

func TestByHand(t *testing.T) { // P301
	for _, x := range []struct {
		c cap.Cap
		b string
	}{
		{cap.Cap{}, "\x00\x00\x00\x00\x00\x00\x00\x00\x00\x00\x00\x00\x00\x00\x00\x00"},
		{cap.Int(0x01020304), "\x00\x00\x00\x00\x00\x00\x00\x00\x04\x03\x02\x01\x00\x00\x00\x00"},
		{cap.Clear(cap.Root(65536)), "\x00\x00\x00\x00\x00\x00\x01\x00\x00\x00\x00\x00\x7f\x00\x00\x00"},
		{cap.Cap{Base: 0xF3F2F1F0, Top: 0xF7F6F5F4, Addr: 0xFBFAF9F8, Perm: 0xFDFC, Type: 0xFFFE}, "\xf0\xf1\xf2\xf3\xf4\xf5\xf6\xf7\xf8\xf9\xfa\xfb\xfc\xfd\xfe\xff"},
		{cap.Cap{Base: 0x00010203, Top: 0x04050607, Addr: 0x08090A0B, Perm: 0x0C0D, Type: 0x0E0F}, "\x03\x02\x01\x00\x07\x06\x05\x04\x0b\x0a\x09\x08\x0d\x0c\x0f\x0e"},
		{cap.Cap{Base: last, Top: 0, Addr: last, Perm: 0, Type: 1<<16 - 1}, "\xff\xff\xff\xff\x00\x00\x00\x00\xff\xff\xff\xff\x00\x00\xff\xff"},
	} {
		want := [16]byte([]byte(x.b))
		if b := pack.Put(x.c); b != want {
			t.Errorf("Put(%s): %x; want %x", cap.Text(x.c), b, want)
		}
		if c := pack.Get(want, false); c != x.c {
			t.Errorf("Get(%x): %s; want %s", want, cap.Text(c), cap.Text(x.c))
		}
	}
}

func TestTag(t *testing.T) { // P301
	for _, c := range caps() {
		c.Tag = true
		bare := cap.Clear(c)
		b := pack.Put(c)
		if pack.Put(bare) != b {
			t.Fatalf("Put(%+v): its Tag is in it", c)
		}
		if pack.Get(b, true) != c || pack.Get(b, false) != bare {
			t.Fatalf("Get(%x): %+v, %+v", b, pack.Get(b, true), pack.Get(b, false))
		}
	}
}

func TestAnyBytes(t *testing.T) { // P301, P1
	for i := range 16 {
		for v := range 256 {
			for _, fill := range []byte{0, 0x5A, 0xFF} {
				b := [16]byte{}
				for j := range b {
					b[j] = fill
				}
				b[i] = byte(v)
				for _, tag := range []bool{false, true} {
					if c := pack.Get(b, tag); pack.Put(c) != b || c.Tag != tag {
						t.Fatalf("Get(%x, %v): %+v", b, tag, c)
					}
				}
			}
		}
	}
}
