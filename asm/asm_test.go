package asm_test

import (
	"errors"
	"strconv"
	"strings"
	"testing"

	"hasp/api"
	"hasp/asm"
	"hasp/code"
	"hasp/obj"
	"hasp/op"
	"hasp/parse"
	"hasp/run"
)

// lines joins the lines of a text.
func lines(l ...string) string { return strings.Join(l, "\n") }

// cut keeps what is told of a long text short.
func cut(s string) string { return strconv.QuoteToASCII(s[:min(len(s), 2000)]) }

// told keeps what is told of an object short.
func told(o obj.Object) string {
	s := strconv.QuoteToASCII(o.Name) + " code " + cut(string(o.Code[:min(len(o.Code), 200)])) + " data " + cut(string(o.Data[:min(len(o.Data), 200)]))
	for _, x := range o.Syms[:min(len(o.Syms), 20)] {
		s += "\n\tsym " + x.Name + " " + strconv.FormatBool(x.Data) + " " + strconv.Itoa(int(x.Off)) + " " + strconv.FormatBool(x.Export)
	}
	for _, x := range o.Rels[:min(len(o.Rels), 20)] {
		s += "\n\trel " + strconv.Itoa(x.Kind) + " " + strconv.Itoa(int(x.Off)) + " " + x.Comp + "." + x.Name + " " + strconv.Itoa(int(x.Perm))
	}
	return s
}

// same holds two objects against each other, not asking obj.
func same(a, b obj.Object) bool {
	if a.Name != b.Name || string(a.Code) != string(b.Code) || string(a.Data) != string(b.Data) || len(a.Syms) != len(b.Syms) || len(a.Rels) != len(b.Rels) {
		return false
	}
	for i := range a.Syms {
		if a.Syms[i] != b.Syms[i] {
			return false
		}
	}
	for i := range a.Rels {
		if a.Rels[i] != b.Rels[i] {
			return false
		}
	}
	return true
}

// makes holds Assemble against an object, twice.
func makes(t *testing.T, name, text string, want obj.Object) {
	t.Helper()
	for range 2 {
		if o, err := asm.Assemble(name, text); !same(o, want) || err != nil {
			t.Fatalf("P1601: %s: %s, %v; want %s", cut(text), told(o), err, told(want))
		}
	}
}

// refuses holds Assemble against an error, twice: Faults, the first one of a line
// or of the object, and an Errno within them; and nothing beside it.
func refuses(t *testing.T, name, text, want string) {
	t.Helper()
	for range 2 {
		o, err := asm.Assemble(name, text)
		if err == nil || err.Error() != want || !same(o, obj.Object{}) {
			t.Fatalf("P1601: %s: %s, %v; want %s", cut(text), told(o), err, want)
		}
		var f *api.Fault
		if !errors.As(err, &f) || f != err || f.Part != "line" && f.Part != "object" {
			t.Fatalf("P1601: %s: %v is no such Fault", cut(text), err)
		}
		for errors.As(f.Err, &f) {
		}
		if e, ok := f.Err.(api.Errno); !ok || !errors.Is(err, e) || e == api.OK {
			t.Fatalf("P1601: %s: %v wraps no Errno", cut(text), err)
		}
	}
}

// agrees holds Assemble against the promise, and answers which error is told.
func agrees(t *testing.T, name, text string) string {
	t.Helper()
	o, err := wanted(name, text)
	if err == "" {
		makes(t, name, text, o)
	} else {
		refuses(t, name, text, err)
	}
	return err
}

// listed answers the instructions of a code as texts, `?` what is none.
func listed(b []byte) string {
	var l []string
	for ; len(b) >= 4; b = b[4:] {
		i, err := code.Decode(uint32(b[0]) | uint32(b[1])<<8 | uint32(b[2])<<16 | uint32(b[3])<<24)
		if err != nil {
			l = append(l, "?")
			continue
		}
		l = append(l, code.Text(i))
	}
	return strings.Join(l, "; ")
}

// chance answers numbers that look as by chance, the same ones each time.
type chance uint64

func (c *chance) below(n int) int {
	*c = *c*6364136223846793005 + 1442695040888963407
	return int(uint64(*c) >> 33 % uint64(n))
}

func TestByHand(t *testing.T) { // P1601
	for s, want := range map[string]string{
		"":                     "",
		"; x":                  "",
		"\n\n":                 "",
		" nop ; halt\n\t halt": "nop; halt",
		"sub c15, c0, c7":      "sub c15, c0, c7",
		"ctag c1, c2":          "ctag c1, c2",
		"out c15":              "out c15",
		"slti c1, c2, -32768":  "slti c1, c2, -32768",
		"lui c1, 32767":        "lui c1, 32767",
		"sb c3, 0x10+2(c4)":    "sb c3, 18(c4)",
		"lc c3, (2*3)*2(c4)":   "lc c3, 12(c4)",
		"lc c3, (c4)":          "lc c3, 0(c4)",
		"ecall 32767":          "ecall 32767",
		"jalr c1, c2, -4":      "jalr c1, c2, -4",
		// places of branches and jumps are counted from the instruction itself
		"nop\nx: jal c1, x":              "nop; jal c1, 0",
		"x: nop\njal c1, x":              "nop; jal c1, -1",
		"nop\nbgeu c1, c2, x+4\nx: halt": "nop; bgeu c1, c2, 2; halt",
		"nop\njmp 0":                     "nop; jal c0, -1",
		"nop\nset c1, 1\njmp 8":          "nop; lui c1, 0; xori c1, c1, 1; jal c0, -1",
		"jmp 4*32767":                    "jal c0, 32767",
		"jmp -4*32768":                   "jal c0, -32768",
		"nop\njmp 4*32768":               "nop; jal c0, 32767",
		// other ones are not
		"nop\nx: li c1, x":                 "nop; li c1, 4",
		"nop\nx: auipcc c1, x":             "nop; auipcc c1, 4",
		"nop\nx: jalr c1, c2, x":           "nop; jalr c1, c2, 4",
		"nop\nx: ecall x":                  "nop; ecall 4",
		"nop\nx: lda c1, x":                "nop; cinci c1, c3, 4",
		"nop\nx: lw c1, x-1(c2)":           "nop; lw c1, 3(c2)",
		"lda c3, -32768":                   "cinci c3, c3, -32768",
		"call\nret\ncall":                  "ecall 1; ecall 2; ecall 1",
		"set c15, 0x7fff8000":              "lui c15, -32768; xori c15, c15, -32768",
		"set c15, 0x7fff7fff":              "lui c15, 32767; xori c15, c15, 32767",
		"set c15, -0x80000000":             "lui c15, -32768; xori c15, c15, 0",
		"set c0, 0xffff":                   "lui c0, -1; xori c0, c0, -1",
		"set c0, 0x10000":                  "lui c0, 1; xori c0, c0, 0",
		"set c0, -65536":                   "lui c0, -1; xori c0, c0, 0",
		"set c1, x\nx:":                    "lui c1, 0; xori c1, c1, 8",
		".equ k, 2\nli c1, k*k":            "li c1, 4",
		"li c1, k\n.equ k, 9":              "li c1, 9",
		".equ c1, 5\nli c1, c1":            "li c1, 5",
		".equ k, 1\n.equ l, k+1\nli c1, l": "li c1, 2",
		"x: nop\ny: .equ k, y-x\nli c1, k": "nop; li c1, 4",
		// sections go on where they were left
		"nop\n.data\n.byte 1\n.code\nx: halt\nli c1, x":             "nop; halt; li c1, 4",
		".data\n.byte 1\n.code\n.data\nx: .byte 2\n.code\nli c1, x": "li c1, 1",
		".code\nnop\n.code\nhalt":                                   "nop; halt",
		".space 4\nnop":                                             "?; nop",
		".space 0\nnop":                                             "nop",
		".space 1\n.align 4\nnop":                                   "?; nop",
		".space 3\n.align 2\nx: .align 1\nli c1, x":                 "?; li c1, 4",
		"nop\n.align 8\nnop\n.align 8\n":                            "nop; ?; nop; ?",
		"nop\nx: .align 16\nli c1, x":                               "nop; ?; ?; ?; li c1, 16",
		"nop\nx:\n.align 16\nli c1, x":                              "nop; ?; ?; ?; li c1, 4",
		".space 8\nx: .align x\nli c1, x":                           "",
	} {
		o, err := asm.Assemble("m", s)
		if want == "" && strings.Contains(s, "li") {
			refuses(t, "m", s, "line 1: token 0: name")
			continue
		}
		if listed(o.Code) != want || err != nil || len(o.Code)%4 != 0 || o.Name != "m" {
			t.Errorf("P1601: %q: %s, %v; want %s", s, listed(o.Code), err, want)
		}
		agrees(t, "m", s)
	}
}

// TestTexts: what code.Text tells of an instruction assembles to it (of a branch
// or a jump, its place told).
func TestTexts(t *testing.T) { // P1601, T4
	c := chance(16)
	edges := []int{-32768, -32767, -1, 0, 1, 2, 255, 32766, 32767}
	for _, o := range op.All() {
		operands := orders()[o.Name].operands
		for range 200 {
			i, imm := code.Inst{Op: o.Code}, 0
			for k, field := range []*int{&i.Rd, &i.Rs, &i.Rt} {
				if len(operands) > k && strings.Contains("rm", operands[k:k+1]) {
					*field = c.below(16)
				}
			}
			if strings.ContainsAny(operands, "vpm") {
				imm = edges[c.below(len(edges))]
				i.Imm = int32(imm)
			}
			want, err := code.Encode(i)
			if err != nil {
				t.Fatalf("%s: %v", o.Name, err)
			}
			at, s := 4*c.below(5), code.Text(i)
			if o.Form == op.B || o.Form == op.J {
				s = s[:strings.LastIndex(s, " ")+1] + strconv.Itoa(at+4*imm)
				s += strings.Repeat("+(0)", c.below(2))
			}
			b := make([]byte, at+4)
			for k := range 4 {
				b[at+k] = byte(want >> (8 * k))
			}
			makes(t, "m", ".space "+strconv.Itoa(at)+"\n"+s, obj.Object{Name: "m", Code: b})
		}
	}
}

func TestSet(t *testing.T) { // P1601
	var all []int64
	for k := range 33 {
		for _, d := range []int64{-2, -1, 0, 1, 2} {
			all = append(all, 1<<k+d, -1<<k+d)
		}
	}
	for _, high := range []int64{0, 1, 0x7FFF, 0x8000, 0x8001, 0xFFFE, 0xFFFF} {
		for _, low := range []int64{0, 1, 0x7FFE, 0x7FFF, 0x8000, 0x8001, 0xFFFE, 0xFFFF} {
			all = append(all, high<<16|low)
		}
	}
	for _, v := range all {
		s := "set c5, " + strconv.FormatInt(v, 10) + "\nhalt"
		agrees(t, "m", s)
		o, err := asm.Assemble("m", s)
		if v < -1<<31 || v >= 1<<32 {
			refuses(t, "m", s, "line 0: over")
			continue
		}
		y, bad := run.Boot(o.Code, 64, 0)
		if err != nil || bad != nil {
			t.Fatalf("P1601: %s: %v, %v", s, err, bad)
		}
		if run.Run(y, 9); y.Regs.Get(5).Addr != uint32(v) {
			t.Errorf("P1601: %s: %x", s, y.Regs.Get(5).Addr)
		}
	}
}

func TestNumbers(t *testing.T) { // P1601
	word := func(v int64) []byte { return []byte{byte(v), byte(v >> 8), byte(v >> 16), byte(v >> 24)} }
	for _, v := range []int64{-1 << 31, -1<<31 + 1, -65536, -257, -256, -1, 0, 1, 255, 256, 0x12345678, 0x7FFFFFFF, 0x80000000, 0xFFFFFFFE, 0xFFFFFFFF} {
		s := strconv.FormatInt(v, 10)
		makes(t, "m", ".data\n.word "+s, obj.Object{Name: "m", Data: append(word(v), make([]byte, 12)...)})
		makes(t, "m", ".data\n.byte 1\n.word 7, "+s+", 8\n.byte 9", obj.Object{Name: "m", Data: append(append([]byte{1, 7, 0, 0, 0}, word(v)...), 8, 0, 0, 0, 9, 0, 0)})
	}
	for v := -200; v < 400; v++ {
		s := strconv.Itoa(v)
		if v < -128 || v > 255 {
			refuses(t, "m", ".data\n.byte "+s, "line 1: over")
			refuses(t, "m", ".data\n.byte 1, "+s+", x", "line 1: over")
			continue
		}
		makes(t, "m", ".data\n.byte "+s, obj.Object{Name: "m", Data: append([]byte{byte(v)}, make([]byte, 15)...)})
	}
	for _, v := range []int64{-1<<31 - 1, -1 << 32, 1 << 32, 1<<32 + 1, 1 << 39, -1 << 39} {
		s := strconv.FormatInt(v, 10)
		refuses(t, "m", ".data\n.word "+s, "line 1: over")
		refuses(t, "m", ".data\n.word 1, "+s+", x", "line 1: over")
	}
	for k := range 17 {
		want := append([]byte(strings.Repeat("\xff", k)), 7)
		want = append(want, make([]byte, (32-len(want))%16)...)
		makes(t, "m", ".data\n"+strings.Repeat(".byte -1\n", k)+".byte 7", obj.Object{Name: "m", Data: want})
	}
}

func TestRoom(t *testing.T) { // P1601: .text, .align, .space
	in := func(s, data string) {
		t.Helper()
		b := append([]byte(data), make([]byte, (16-len(data)%16)%16)...)
		makes(t, "m", ".data\n"+s, obj.Object{Name: "m", Data: b})
	}
	in(`.text ""`, "")
	in(`.text "", ""`, "")
	in(`.text "a"`, "a")
	in(`.text "a;b,c", " ", "", "(:"`, "a;b,c (:")
	in(".byte 1\n.text \"xy\", \"z\"\n.byte 2", "\x01xyz\x02")
	all := ""
	for c := ' '; c <= '~'; c++ {
		if c != '"' {
			all += string(c)
		}
	}
	in(".text \""+all+"\", \""+all+"\"", all+all)
	for at := range 40 {
		fill := strings.Repeat("x", at)
		for _, n := range []int{1, 2, 4, 8, 16} {
			in(".text \""+fill+"\"\n.align "+strconv.Itoa(n)+"\n.byte 255", fill+strings.Repeat("\x00", (n-at%n)%n)+"\xff")
		}
		in(".byte 3\n.space "+strconv.Itoa(at)+"\n.byte 255", "\x03"+strings.Repeat("\x00", at)+"\xff")
	}
	for n := -3; n < 70; n++ {
		s := strconv.Itoa(n)
		if n == 1 || n == 2 || n == 4 || n == 8 || n == 16 {
			continue
		}
		for _, section := range []string{".code", ".data"} {
			refuses(t, "m", section+"\n.align "+s, "line 1: over")
		}
	}
	for _, s := range []string{"-1", "16385", "1<<14|1", "-1<<39", "1<<39"} {
		for _, section := range []string{".code", ".data"} {
			refuses(t, "m", section+"\n.space "+s, "line 1: over")
		}
	}
}

func TestRelocations(t *testing.T) { // P1601
	s := lines(".data", ".equ all, 27", "d: .cap d", ".cap f", "e: .cap d, 0", ".cap f, all&13", ".cap f, 1|4", ".import comp, name", ".import c1, c2", ".share mem", ".share c3", "x: .cap x, all", ".text \"end\"", ".code", "f: halt")
	want := obj.Object{Name: "m", Code: []byte{0, 0, 0, 65}, Data: append(append(make([]byte, 160), "end"...), make([]byte, 13)...),
		Syms: []obj.Sym{{Name: "d", Data: true}, {Name: "e", Data: true, Off: 32}, {Name: "f"}, {Name: "x", Data: true, Off: 144}},
		Rels: []obj.Rel{
			{Kind: 1, Name: "d", Perm: 1 | 2 | 8 | 16}, {Kind: 1, Off: 16, Name: "f", Perm: 1 | 4 | 8}, {Kind: 1, Off: 32, Name: "d"}, {Kind: 1, Off: 48, Name: "f", Perm: 9}, {Kind: 1, Off: 64, Name: "f", Perm: 5},
			{Kind: 2, Off: 80, Comp: "comp", Name: "name"}, {Kind: 2, Off: 96, Comp: "c1", Name: "c2"}, {Kind: 3, Off: 112, Name: "mem"}, {Kind: 3, Off: 128, Name: "c3"}, {Kind: 1, Off: 144, Name: "x", Perm: 27},
		}}
	makes(t, "m", s, want)
	for perm := range 300 {
		for _, sym := range []string{"f", "d"} {
			agrees(t, "m", "f: nop\n.data\nd: .cap "+sym+", "+strconv.Itoa(perm))
		}
	}
	for _, perm := range []string{"-1", "65536", "1<<32", "-1<<16", "1<<39"} {
		refuses(t, "m", ".data\nd: .cap d, "+perm, "line 1: over")
	}
	for _, perm := range []string{"65535", "32768", "256", "4", "128"} {
		refuses(t, "m", ".data\nd: .cap d, "+perm, "object 0: rel 0: perm")
	}
	for at := range 33 {
		for _, one := range []string{".cap d", ".cap d, 1", ".import a, b", ".share a"} {
			text := ".data\nd: .space " + strconv.Itoa(at) + "\n" + one
			if at%16 != 0 {
				refuses(t, "m", text, "line 2: align")
				continue
			}
			o, err := asm.Assemble("m", text)
			if err != nil || len(o.Rels) != 1 || int(o.Rels[0].Off) != at || len(o.Data) != at+16 {
				t.Errorf("P1601: %q: %s, %v", text, told(o), err)
			}
		}
	}
}

func TestSymbols(t *testing.T) { // P1601
	s := lines("z: nop", "a: b:", "")
	refuses(t, "m", s, "line 1: name")
	s = lines("z: nop", "a:", "Z: .export z", "m: .data", "d: .byte 1, 2", "_: .code", "abcdefghijklmnop: .export Z", "y: halt", ".equ k, 7", ".data", "end:", "x: .align 8", "c0x: .export y")
	want := obj.Object{Name: "m", Code: []byte{0, 0, 0, 67, 0, 0, 0, 65}, Data: append([]byte{1, 2}, make([]byte, 14)...), Syms: []obj.Sym{
		{Name: "Z", Off: 4, Export: true}, {Name: "_", Data: true, Off: 2}, {Name: "a", Off: 4}, {Name: "abcdefghijklmnop", Off: 4},
		{Name: "c0x", Data: true, Off: 8}, {Name: "d", Data: true}, {Name: "end", Data: true, Off: 2}, {Name: "m", Off: 4}, {Name: "x", Data: true, Off: 8}, {Name: "y", Off: 4, Export: true}, {Name: "z", Export: true},
	}}
	makes(t, "m", s, want)
	for _, name := range []string{"a", "_", "Main2", "abcdefghijklmnop", "c1"} {
		makes(t, name, "nop", obj.Object{Name: name, Code: []byte{0, 0, 0, 67}})
	}
	for _, name := range []string{"", "1a", "a.b", "a b", "abcdefghijklmnopq", "\xff", "a\n", strings.Repeat("a", 1<<20)} {
		refuses(t, name, "nop", "object 0: name 0: name")
		refuses(t, name, "nop\nfoo", "line 1: name")
		refuses(t, name, "nop\njmp 1", "line 1: align")
	}
}

func TestRefused(t *testing.T) { // P1601
	for s, want := range map[string]string{
		// lex's, parse's, expr's, code's, obj's
		"nop\nhalt\r\n": "line 1: col 4: form", "nop\x00": "line 0: col 3: form", "\n\nx: \x7f": "line 2: col 3: form", "abcdefghijklmnopq: nop": "line 0: col 0: long", "nop\nli c1, 1<<40, 1099511627776": "line 1: col 14: over",
		"add c1, , c2": "line 0: token 3: form", "c15: nop": "line 0: token 0: name", "nop\nli c1, (5": "line 1: token 2: form", "li c1, 5+": "line 0: token 2: form", "li c1, \"5\"": "line 0: token 0: form", "li c1, 1<<41": "line 0: token 1: over", "li c1, 5+x": "line 0: token 2: name",
		"li c1, -32769": "line 0: imm -32769: over", "lw c1, 1<<20(c2)": "line 0: imm 1048576: over", "sc c1, -32769(c2)": "line 0: imm -32769: over", "ecall 1<<15": "line 0: imm 32768: over", "auipcc c1, 1<<35": "line 0: imm 2147483647: over", "jalr c1, c2, -1<<35": "line 0: imm -2147483648: over", "lda c1, 1<<31": "line 0: imm 2147483647: over", "lda c1, -1-(1<<31)": "line 0: imm -2147483648: over", "li c1, 0x7fffffff": "line 0: imm 2147483647: over",
		"jmp 4*32768": "line 0: imm 32768: over", "jmp -4*32769": "line 0: imm -32769: over", "nop\njal c1, -4*32768": "line 1: imm -32769: over", "bne c1, c2, 1<<30": "line 0: imm 268435456: over",
		"x:": "", "x:\n.export x": "object 0: sym 0: range", "nop\n.space 1\nx: .space 3\n.export x": "object 0: sym 0: align", ".data\nx: .byte 1\n.export x": "object 0: sym 0: kind", ".space 3": "object 0: code 3: align", "f: nop\n.data\n.cap f, 2": "object 0: rel 0: perm",
		// ops
		"Nop": "line 0: name", "nop.": "line 0: name", "x.y c1": "line 0: name", "c1": "line 0: name", "x: word 1": "line 0: name",
		"jmp 1": "line 0: align", "jmp 6": "line 0: align", "jmp -1": "line 0: align", "nop\nbeq c1, c2, 3": "line 1: align", "jmp 1<<20|2": "line 0: align",
		"jmp": "line 0: form", "jmp c0, 4": "line 0: form", "ret c1": "line 0: form", "call 1": "line 0: form", "lda c1": "line 0: form", "lda c1, c3, 4": "line 0: form", "set c1": "line 0: form", "set c1, 5, 6": "line 0: form", "set c16, 5": "line 0: form", "lda 1, x": "line 0: form", "lda c1, x": "line 0: token 0: name", "jmp x": "line 0: token 0: name", "jmp 4 4": "line 0: form", "set c1, 1 1": "line 0: form", "set c1, x": "line 0: token 0: name",
		"add c1, c2 c2, c3": "line 0: form", "add (c1), c2, c3": "line 0: form", "add c1, c2, c16": "line 0: form", "add c1, x, c1": "line 0: form", "mv c1": "line 0: form", "mv c1, c2, c3": "line 0: form", "in": "line 0: form", "in c1, c2": "line 0: form", "halt c1": "line 0: form", "lw c1, 4, (c2)": "line 0: form", "lw c1, 4": "line 0: form", "lw c1, 4(c16)": "line 0: form", "lw c1, 4(5)": "line 0: form", "lw x, y(c2)": "line 0: form", "lw c1, y(c2)": "line 0: token 0: name", "lw c1, 4 4(c2)": "line 0: form", "ecall c1": "line 0: token 0: name", "li 5, x": "line 0: form", "beq c1, 2, 1": "line 0: form", "beq c1, c2, 4 4": "line 0: form",
		// directives
		".foo": "line 0: name", "x: .nop": "line 0: name", ".codes": "line 0: name", ".code x": "line 0: form", ".data 0": "line 0: form",
		".byte 1": "line 0: kind", ".text \"a\"": "line 0: kind", ".import a, b": "line 0: kind", ".share a": "line 0: kind", ".cap x, 4": "line 0: kind", ".byte": "line 0: kind", ".import": "line 0: kind", ".share 5": "line 0: kind",
		".data\n.text \"a\", 5": "line 1: form", ".data\n.text a": "line 1: form", ".data\n.import a, b, c": "line 1: form", ".data\n.import a, \"b\"": "line 1: form", ".data\n.import a b, c": "line 1: form", ".data\n.share": "line 1: form", ".data\n.share \"a\"": "line 1: form", ".data\n.share a b": "line 1: form", ".data\n.cap": "line 1: form", ".data\n.cap \"x\"": "line 1: form", ".data\n.cap x 4": "line 1: form", ".data\n.cap 5, 4": "line 1: form",
		".equ": "line 0: form", ".equ x, 1, 2": "line 0: form", ".equ \"x\", 1": "line 0: form", ".equ (x), y": "line 0: form", ".export x, y": "line 0: form", ".export \"x\"": "line 0: form", ".export x y": "line 0: form",
		".equ x, 1 1": "line 0: form", ".align 4 4": "line 0: form", ".space 4 4": "line 0: form", ".equ a.b, y": "line 0: token 0: name", ".equ a.b, 1": "line 0: name", ".equ x, x": "line 0: token 0: name", "x: .equ x, x": "line 0: twice", ".equ x, y\ny: nop": "line 0: token 0: name", ".space x\n.equ x, 5": "line 0: token 0: name", "x: .align x+4": "line 0: token 0: name", "x: .space 4\n.space y": "line 1: token 0: name", ".align \"4\"": "line 0: token 0: form", ".space 1<<41": "line 0: token 1: over", ".equ x, 1<<41": "line 0: token 1: over",
		".data\n.word": "line 1: form", ".data\n.byte 1, 2 3": "line 1: form", ".data\n.byte 1 2, 256": "line 1: form", ".data\n.byte 256, 1 2": "line 1: over", ".data\n.word x, 1<<33": "line 1: token 0: name", ".data\n.word 1<<33, x": "line 1: over",
		".data\n.cap x, y": "line 1: name", ".data\nx: .cap x, y": "line 1: token 0: name", ".data\nx: .cap x, 4 4": "line 1: form", ".data\nx: .cap x, 65536 4": "line 1: form", ".data\nx: .byte 1\n.cap y, z": "line 2: align", ".data\n.cap a.b": "line 1: name", ".data\n.import a.b, c.d": "line 1: name", ".data\n.byte 1\n.import a.b, c": "line 2: align",
		"nop\nx:\n.equ y, x\n.export y": "line 3: name", ".export a.b": "line 0: name", "x: nop\n.export x\n.equ k, 4\n.export x": "line 3: twice",
		// labels
		"a.b: nop": "line 0: name", "a.: .align 3": "line 0: over", "a.: .align 4": "line 0: name", "x: nop\nx: .align 4": "line 1: twice", "x: nop\nx: .align 5": "line 1: over", "x: nop\nx: .align": "line 1: form", "x: nop\nx: .space -1": "line 1: twice", "x: nop\nx: align 4": "line 1: twice", "x: align 4": "line 0: name", "x: nop\nx: .equ y, z": "line 1: twice", "x: nop\nx:": "line 1: twice", ".equ x, 4\nx:": "line 1: twice", "x: nop\nx: .data\n.data": "line 1: twice", "x: nop\n.data\nx: .byte 1": "line 2: twice", "a.b: .word": "line 0: name",
		// passes
		"jmp 1\n.data\n.byte 256\nfoo": "line 3: name", "jmp 1\nli c1, x": "line 0: align", "li c1, x\njmp 1": "line 0: token 0: name", ".export x\njmp 1": "line 0: name", "jmp 1\n.export x": "line 0: align", ".space 2\n.export x": "line 1: name", "jmp 1\n.space 20000": "line 1: over", ".data\n.share a.b\n$": "line 2: col 0: form", ".data\n.byte 1\n.cap x\n.word": "line 3: form", "foo\n$": "line 0: name", "jmp 1\nx: nop\nx: nop": "line 2: twice",
	} {
		if want == "" {
			if _, err := asm.Assemble("m", s); err != nil {
				t.Errorf("P1601: %q: %v", s, err)
			}
			continue
		}
		refuses(t, "m", s, want)
		agrees(t, "m", s)
		agrees(t, "", s)
	}
}

func TestSize(t *testing.T) { // P1601
	for name := range orders() {
		want := 4
		if name == "set" {
			want = 8
		}
		for _, rest := range []string{"", " c1", " 5, 6", " c1, c2, c3, c4", " \"x\""} {
			for _, label := range []string{"", "x: ", "a.b: "} {
				sized(t, label+name+rest, want)
			}
			sized(t, "."+name+rest, 0)
		}
		for _, other := range []string{name + "x", "x" + name, name + ".", strings.ToUpper(name), name + "_"} {
			if _, is := orders()[other]; !is {
				sized(t, other, 0)
			}
		}
	}
	for _, s := range []string{"", "x:", "; set", "word 1", "c1", ".code", ".data", ".align 4", ".word 1, 2", ".byte 1", ".text \"a\"", ".space 5", ".equ a, 1", ".cap a", ".import a, b", ".share a", ".export a", ".foo"} {
		sized(t, s, 0)
	}
	if n := asm.Size(parse.Line{}); n != 0 {
		t.Errorf("P1601: %d", n)
	}
	if n := asm.Size(parse.Line{Dot: true, Label: "nop", Name: "nop"}) + asm.Size(parse.Line{Label: "nop"}); n != 0 {
		t.Errorf("P1601: %d", n)
	}
}

// sized holds Size of a line against an answer, twice.
func sized(t *testing.T, s string, want int) {
	t.Helper()
	l, err := parse.Parse(s)
	for range 2 {
		if n := asm.Size(l); n != want || err != nil {
			t.Errorf("P1601: Size(%q): %d, %v; want %d", s, n, err, want)
		}
	}
}
