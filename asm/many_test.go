package asm_test

import (
	"slices"
	"strconv"
	"strings"
	"testing"
	"unsafe"

	"hasp/asm"
	"hasp/lex"
	"hasp/obj"
	"hasp/parse"
)

// head is what the texts below begin with: dup is a label, k is none, and v is a
// label of the data, which is left at 16.
const head = "dup: nop\n.equ k, 4\n.data\nv: .space 16\n.code"

// commands answers what may stand behind a label, right or wrong.
func commands() []string {
	l := []string{
		"", "nop", "foo", "nop c1", "foo c1", "a.b", "c1", "halt", "ret", "ret c1", "call", "call 1", "$", "nop,", "c2: nop", "add c1, c2,",
		"add c1, c2, c3", "add c1, c2", "add c1, c2, 5", "add c1, x, c3", "add c1, c2, c3, c4", "mv c1, c2", "mv c1, 5", "mv c1", "in c1", "in 1", "out", "out c15",
		"li c1, 5", "li c1", "li 5, 5", "li c1, k", "li c1, v", "li c1, later", "li c1, zz", "li c1, 5 5", "li c1, 32768", "li c1, 1<<36", "li c1, 1<<41", "li zz, zz", "li c1, \"5\"",
		"addi c1, c2, -k", "addi c1, 2, zz", "addi c1, c2, 1<<20", "ecall 5", "ecall", "ecall c1", "ecall 1, 2", "ecall 40000", "jalr c1, c2, 4", "auipcc c1, -1<<20",
		"lw c1, 4(c2)", "lw c1, (c2)", "lw c1, c2", "lw c1, zz(c2)", "lw c1, 4 4(c2)", "lw 1, zz(c2)", "lw c1, 40000(c2)", "lw c1, 4(c2", "sc c1, k*k(c15)", "sc c1, 4(c2) 4",
		"jmp dup", "jmp later", "jmp 1", "jmp zz", "jmp", "jmp c0, 4", "jmp 4 4", "jmp 4*40000", "jal c1, dup", "jal 1, zz", "jal c1, 2", "beq c1, c2, dup", "beq c1, 2, 3", "beq c1, c2, 3", "beq c1, c2, -4*40000", "bltu c1, c2, 4 4",
		"lda c1, v", "lda c1", "lda 1, zz", "lda c1, zz", "lda c1, 40000", "lda c1, 4 4", "set c1, 5", "set c1", "set 1, zz", "set c1, zz", "set c1, 1<<32", "set c1, -1<<32", "set c1, 0x89abcdef", "set c1, 5 5", "set 1 1, 1<<33",
		".foo", ".foo 1", ".nop", ".code", ".data", ".code 1", ".data x",
		".align 4", ".align 16", ".align 1", ".align 3", ".align 0", ".align -4", ".align 32", ".align", ".align 4, 4", ".align 4 4", ".align zz", ".align later", ".align k", ".align \"4\"", ".align 1<<41",
		".space 0", ".space 1", ".space 4", ".space 16", ".space 16384", ".space 16385", ".space -1", ".space", ".space 1, 1", ".space 4 4", ".space zz", ".space later", ".space k", ".space 1<<41", ".space (k", ".space v+dup+1",
		".word 5", ".word", ".word 1, later, -1", ".word zz", ".word 1<<32", ".word -(1<<31)-1", ".word 1 1", ".word 1<<33, zz", ".word zz, 1<<33", ".word 1 1, zz", ".word \"a\"", ".word 1,, 2", ".word (", ".word k, 1<<41",
		".byte 5", ".byte", ".byte 1, k, -1", ".byte zz", ".byte 256", ".byte -129", ".byte 1 1", ".byte 256, zz", ".byte zz, 256", ".byte \"a\"", ".byte -128, 255, 1, 1, 1, 1, 1",
		".text \"\"", ".text \"abc\"", ".text \"abc\", \"defg\"", ".text", ".text 5", ".text a", ".text \"a\" \"b\"", ".text \"a\", b", ".text \"a", ".text \"a\", 1<<41",
		".cap v", ".cap dup", ".cap v, 1", ".cap dup, 5", ".cap", ".cap 5", ".cap zz", ".cap k", ".cap v, 1, 2", ".cap v v", ".cap v, zz", ".cap zz, zz", ".cap v, 1 1", ".cap v, 65536", ".cap v, -1", ".cap zz, -1", ".cap v, 64", ".cap dup, 2", ".cap a.b", ".cap \"v\"", ".cap later", ".cap v, 1<<41",
		".import a, b", ".import a", ".import a, b, c", ".import a.b, c", ".import a, b.c", ".import a, 5", ".import 5, a", ".import a b, c", ".import a, \"b\"", ".import a.b, 5",
		".share a", ".share", ".share a, b", ".share a.b", ".share 5", ".share a b", ".share \"a\"",
		".equ n, 5", ".equ dup, 5", ".equ k, 5", ".equ v, zz", ".equ a.b, 5", ".equ a.b, zz", ".equ n", ".equ n, 1, 2", ".equ n, zz", ".equ n, n", ".equ n, later", ".equ n, 1 1", ".equ a.b, 1 1", ".equ dup, 1 1", ".equ 5, 5", ".equ 5, zz", ".equ n n, 5", ".equ \"n\", 5", ".equ n, k+dup", ".equ n, 1<<41", ".equ later, 5", ".equ c1, 5",
		".export dup", ".export", ".export zz", ".export k", ".export v", ".export 5", ".export dup, dup", ".export dup dup", ".export later", ".export a.b", ".export \"dup\"",
	}
	return l
}

// sections answers what brings a text to a place where its lines go on.
func sections() []string {
	return []string{
		"nop", ".space 2", ".space 13", ".space 16376", ".space 16380", ".space 16379\n.space 1", ".space 16378",
		".data", ".data\n.byte 1", ".data\n.space 6", ".data\n.space 16368", ".data\n.space 16352", ".data\n.space 16364", ".data\n.space 16367",
	}
}

// TestEachCommand: each command behind labels of all sorts, everywhere; the text
// ends with it, or goes on.
func TestEachCommand(t *testing.T) { // P1601, P4, P6
	seen := map[string]int{}
	for _, section := range sections() {
		for _, label := range []string{"", "ok: ", "a.b: ", "dup: ", "k: ", "n: "} {
			for i, s := range commands() {
				text := head + "\n" + section + "\n" + label + s
				if i%2 == 0 {
					text += "\n.code\n.align 4\nlater: halt\n.export later"
				}
				seen[kind(agrees(t, "m", text))]++
			}
		}
	}
	enough(t, seen, 20, "", "line N name", "line N twice", "line N kind", "line N form", "line N over", "line N align", "line N long", "line N token 0: name", "line N token 1: over", "line N imm N over")
	enough(t, seen, 5, "object 0: rel N perm", "object 0: sym N kind")
}

// kind leaves out of an error the places, but those of tokens.
func kind(s string) string {
	words := strings.Fields(s)
	for i := 1; i < len(words); i++ {
		switch words[i-1] {
		case "line", "imm", "sym", "rel":
			words[i] = "N"
		}
	}
	return strings.Join(words, " ")
}

// enough fails if one of these errors is told fewer times than that.
func enough(t *testing.T, seen map[string]int, least int, all ...string) {
	t.Helper()
	for _, s := range all {
		if seen[s] < least {
			t.Errorf("%q is told only %d times", s, seen[s])
		}
	}
}

// TestEachTwo: two commands in one text, of one section or of both.
func TestEachTwo(t *testing.T) { // P1601, P6
	all := commands()
	c := chance(2)
	for i, a := range all {
		for k, b := range all {
			if (i+k)%4 != 0 {
				continue
			}
			parts := []string{head, []string{".code", ".data", ".data"}[c.below(3)], a, []string{"", ".code", ".data", ".align 16"}[c.below(4)], b}
			if c.below(3) > 0 {
				parts = append(parts, ".code", "later: halt")
			}
			agrees(t, "m", lines(parts...))
		}
	}
}

// writer makes texts by chance.
type writer struct {
	c     chance
	lines []string
	names []string
	code  []string
}

func (w *writer) one(l ...string) string { return l[w.c.below(len(l))] }

func (w *writer) number() string { return strconv.Itoa(w.c.below(60)) }

// constant answers a constant that is not far from 0.
func (w *writer) constant(deep int) string {
	switch n := w.c.below(9); {
	case deep == 0 || n < 3:
		return w.number()
	case n < 5:
		return w.one(w.names...)
	case n < 6:
		return w.one("-", "~", "- -") + w.constant(deep-1)
	case n < 7:
		return "(" + w.constant(deep-1) + ")"
	}
	return w.constant(deep-1) + w.one("+", "-", "&", "|", "^", " + ", " * 2 - ") + w.constant(deep-1)
}

func (w *writer) register() string { return "c" + strconv.Itoa(w.c.below(16)) }

// op answers an op that is right.
func (w *writer) op(all map[string]order, names []string) string {
	name := w.one(names...)
	var args []string
	for _, c := range all[name].operands {
		switch c {
		case 'r':
			args = append(args, w.register())
		case 'v':
			args = append(args, w.constant(2))
		case 'w':
			args = append(args, w.constant(2)+w.one("", "+0x7ff0", "*0x10001", "-0x8000"))
		case 'p':
			args = append(args, w.one(w.code...)+w.one("", "+4", "-8", "+4*3"))
		case 'm':
			args = append(args, w.one("", w.constant(1))+"("+w.register()+")")
		}
	}
	return name + " " + strings.Join(args, ", ")
}

// directive answers a directive of the data that is right.
func (w *writer) directive() string {
	switch w.c.below(8) {
	case 0:
		return ".word " + w.constant(2) + ", " + w.constant(1)
	case 1:
		return ".byte " + w.one("0", "-128", "255", "1, 2, 3")
	case 2:
		return ".text \"" + w.one("", "a", "abc;", "  ") + "\", \"x\""
	case 3:
		return ".space " + w.number()
	case 4:
		return ".align 16\n.cap " + w.one(w.code...) + w.one("", ", 1", ", 4 | 1", ", 13")
	case 5:
		return ".align 16\n.import " + w.one("other", "c1") + ", " + w.one("f", "g_1")
	case 6:
		return ".align 16\n.share mem"
	}
	return ".align " + w.one("1", "2", "4", "8", "16")
}

// text answers a text that is right, as lines.
func (w *writer) text(all map[string]order, names []string) []string {
	w.lines, w.names, w.code = nil, nil, nil
	for i := range 3 {
		s := w.number()
		if i > 0 {
			s = w.constant(1)
		}
		w.lines = append(w.lines, ".equ k"+strconv.Itoa(i)+", "+s)
		w.names = append(w.names, "k"+strconv.Itoa(i))
	}
	labels := 1 + w.c.below(5)
	for i := range labels {
		w.code = append(w.code, "f"+strconv.Itoa(i))
		w.names = append(w.names, "f"+strconv.Itoa(i), "v"+strconv.Itoa(i))
	}
	for i := range labels {
		w.lines = append(w.lines, ".code", ".align 4", w.one("", " ")+"f"+strconv.Itoa(i)+": "+w.op(all, names))
		for range w.c.below(4) {
			w.lines = append(w.lines, "\t"+w.op(all, names)+w.one("", " ; a remark"))
		}
		w.lines = append(w.lines, ".data", "v"+strconv.Itoa(i)+":"+w.one("", ".align 8", ".byte 7"))
		for range w.c.below(4) {
			w.lines = append(w.lines, w.directive())
		}
		if w.c.below(2) == 0 {
			w.lines = append(w.lines, ".export f"+strconv.Itoa(i))
		}
	}
	return strings.Split(lines(w.lines...), "\n")
}

// TestByChance: texts that are right, and with lines and bytes changed.
func TestByChance(t *testing.T) { // P1601, P1, P3, P6
	w, wrong := &writer{c: 7}, commands()
	all := orders()
	var names []string
	for name := range all {
		names = append(names, name)
	}
	slices.Sort(names)
	seen := map[string]int{}
	for i := range 6000 {
		l := w.text(all, names)
		switch i % 4 {
		case 1, 2:
			for range i % 4 {
				at := w.c.below(len(l) + 1)
				l = slices.Insert(l, at, w.one("", "", "later: ", "f0: ")+w.one(wrong...))
			}
		case 3:
			at := w.c.below(len(l))
			l = slices.Delete(l, at, at+1)
		}
		s := []byte(lines(l...))
		if i%8 >= 6 {
			s[w.c.below(len(s))] = " \n,:.;()c0\"x\xff"[w.c.below(13)]
		}
		seen[kind(agrees(t, "m", string(s)))]++
	}
	enough(t, seen, 1500, "")
	enough(t, seen, 10, "line N name", "line N form", "line N kind", "line N over", "line N align", "line N twice", "line N token 0: name")
}

// TestLimits: a section's bytes, a text's, symbols, relocations.
func TestLimits(t *testing.T) { // P1601
	for s, want := range map[string]string{
		".space 16384": "", ".space 16380\nnop": "", ".space 16376\nset c1, 5": "", ".space 16384\n.align 16\n.space 0\nx:": "", ".space 16384\n.data\n.space 16384": "", ".space 16381\n.align 16": "", ".data\n.space 16383\n.align 16": "", ".data\n.space 16383\n.byte 1": "", ".data\n.space 16384\n.text \"\"": "", ".data\n.space 16384\nx: .code\nnop": "", ".data\n.space 16381": "",
		".space 16384\nnop": "line 1: long", ".space 16380\nset c1, 5": "line 1: long", ".space 16384\nset c1, 5": "line 1: long", ".space 16384\n.space 1": "line 1: long", ".space 1\n.space 16384": "line 1: long", ".space 16384\n.space 16384": "line 1: long", ".space 16384\nnop c1": "line 1: form", ".space 16383\nnop": "line 1: align", ".space 16384\nfoo": "line 1: name", ".space 16384\n.space 16385": "line 1: over", ".space 16384\nx: .space 1": "line 1: long",
		".data\n.space 16384\n.byte 1": "line 2: long", ".data\n.space 16381\n.word 1": "line 2: long", ".data\n.space 16380\n.word 1": "", ".data\n.space 16380\n.word 1, 2": "line 2: long", ".data\n.space 16383\n.text \"ab\"": "line 2: long", ".data\n.space 16368\n.share a": "", ".data\n.space 16384\n.share a": "line 2: long", ".data\n.space 16384\n.cap x": "line 2: long", ".data\n.space 16384\n.import a, b": "line 2: long", ".data\n.space 16384\n.share 5": "line 2: form", ".data\n.space 16370\n.share a.b": "line 2: long", ".data\n.space 16384\nnop": "line 2: kind",
		".data\n.space 16000\n.byte " + strings.Repeat("1,", 383) + "1": "", ".data\n.space 16000\n.byte " + strings.Repeat("1,", 384) + "1": "line 2: long", ".data\n.byte " + strings.Repeat("x,", 30000) + "x": "line 1: long", ".data\n.word " + strings.Repeat("x,", 30000) + "x": "line 1: long",
		strings.Repeat(" ", 65536): "", strings.Repeat("\n", 65536): "", ";" + strings.Repeat("$", 65535): "", strings.Repeat(" ", 65533) + "nop": "", strings.Repeat("\n", 65533) + "foo": "line 65533: name", strings.Repeat(" ", 65537): "line 0: long", strings.Repeat("\n", 65534) + "foo": "line 0: long", "$" + strings.Repeat(" ", 65536): "line 0: long", strings.Repeat("nop\n", 1<<18): "line 0: long", strings.Repeat("nop\n", 4096): "", strings.Repeat("nop\n", 4097): "line 4096: long",
	} {
		o, err := asm.Assemble("m", s)
		if want != "" {
			refuses(t, "m", s, want)
		} else if err != nil || o.Name != "m" {
			t.Errorf("P1601: %s: %v", cut(s), err)
		}
		agrees(t, "m", s)
	}
	for _, n := range []int{255, 256, 257, 300, 1000} {
		labels, consts, shares := "", "", ".data\n"
		for i := range n {
			labels += "x" + strconv.Itoa(n-i) + ":\n"
			consts += ".equ x" + strconv.Itoa(i) + ", " + strconv.Itoa(i) + "\n"
			shares += ".share a\n"
		}
		agrees(t, "m", labels)
		agrees(t, "m", consts+"li c1, x"+strconv.Itoa(n-1))
		agrees(t, "m", shares)
		if n > 256 {
			refuses(t, "m", labels, "object 0: syms "+strconv.Itoa(n)+": long")
			refuses(t, "m", shares, "object 0: rels "+strconv.Itoa(n)+": long")
		}
	}
}

// TestManyNames: as many names as there may be, and as many uses.
func TestManyNames(t *testing.T) { // P1601, P1
	var b strings.Builder
	for i := range 4500 {
		b.WriteString("a" + strconv.FormatInt(int64(i), 36) + ":\n")
	}
	s := b.String()
	refuses(t, "m", s, "object 0: syms 4500: long")
	refuses(t, "m", s+".data\n.word "+strings.Repeat("a3gz+", 5000)+"1,zz", "line 4501: token 0: name")
	refuses(t, "m", "li c1, "+strings.Repeat("(", 17)+"5"+strings.Repeat(")", 17)+"+x", "line 0: token 36: name")
	refuses(t, "m", "li c1, "+strings.Repeat("(", 60000), "line 0: token 17: long")
}

// TestNothingShared: answers lie in memory of their own, their spare room too,
// and no text of them lies in what was handed in.
func TestNothingShared(t *testing.T) { // P2
	name := strings.Repeat("main", 2)
	s := lines("f: nop", ".export f", ".data", "v: .cap f", ".cap v, 1", ".import other, entry", ".share memory", ".text \"abc\"", "end:")
	a, err := asm.Assemble(name, s)
	b, bad := asm.Assemble(name, s)
	if err != nil || bad != nil {
		t.Fatal(err, bad)
	}
	kept, _ := wanted(name, s)
	for _, o := range []obj.Object{a, b} {
		texts := []string{o.Name}
		for _, x := range o.Syms {
			texts = append(texts, x.Name)
		}
		for _, x := range o.Rels {
			texts = append(texts, x.Name, x.Comp)
		}
		for _, text := range texts {
			for _, in := range []string{name, s} {
				begin, at := uintptr(unsafe.Pointer(unsafe.StringData(in))), uintptr(unsafe.Pointer(unsafe.StringData(text)))
				if text != "" && at >= begin && at < begin+uintptr(len(in)) {
					t.Errorf("P2: %q lies in what was handed in", text)
				}
			}
		}
	}
	fill := func(l []byte) {
		for i := range l[:cap(l)] {
			l[:cap(l)][i] = 0xEE
		}
	}
	fill(a.Code)
	if string(a.Data) != string(kept.Data) {
		t.Errorf("P2: code and data share memory")
	}
	fill(a.Data)
	for i := range a.Syms[:cap(a.Syms)] {
		a.Syms[:cap(a.Syms)][i] = obj.Sym{Name: "changed"}
	}
	for i := range a.Rels[:cap(a.Rels)] {
		a.Rels[:cap(a.Rels)][i] = obj.Rel{Name: "changed"}
	}
	if !same(b, kept) {
		t.Errorf("P2: %s is not %s any more", told(b), told(kept))
	}
	makes(t, name, s, kept)
}

// TestSizeChangesNothing: a line that is handed in stays as it is.
func TestSizeChangesNothing(t *testing.T) { // P2
	room := make([][]lex.Token, 3)
	room[0] = []lex.Token{{Kind: lex.Name, Text: "c1"}, {Kind: lex.Num, N: 5}}[:1]
	l := parse.Line{Label: "x", Name: "set", Args: room[:1]}
	if asm.Size(l) != 8 || len(room[0]) != 1 || room[0][0].Text != "c1" || room[0][:2][1].N != 5 || room[1] != nil || room[2] != nil {
		t.Errorf("P2: %v", room)
	}
}
