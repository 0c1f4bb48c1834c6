package parse_test

import (
	"errors"
	"math"
	"regexp"
	"slices"
	"strconv"
	"strings"
	"testing"
	"unsafe"

	"hasp/api"
	"hasp/lex"
	"hasp/parse"
)

// alike holds two lines against each other, token by token.
func alike(a, b parse.Line) bool {
	return a.Label == b.Label && a.Name == b.Name && a.Dot == b.Dot &&
		slices.EqualFunc(a.Args, b.Args, func(a, b []lex.Token) bool { return slices.Equal(a, b) })
}

// cut keeps what is told of a long line short.
func cut(s string) string { return strconv.QuoteToASCII(s[:min(len(s), 200)]) }

// told keeps what is told of a line of many operands short.
func told(l parse.Line) string {
	s := strconv.Quote(l.Label) + " " + strconv.FormatBool(l.Dot) + " " + strconv.Quote(l.Name) + " of " + strconv.Itoa(len(l.Args))
	for _, x := range l.Args[:min(len(l.Args), 20)] {
		s += " [" + written(x[:min(len(x), 20)]) + "]"
	}
	return s
}

// written tells tokens by kind and text.
func written(l []lex.Token) string {
	s := ""
	for _, t := range l {
		s += " " + strconv.Itoa(t.Kind) + ":" + t.Text
	}
	return s
}

// answers holds Parse(s) against a line, twice.
func answers(t *testing.T, s string, want parse.Line) {
	t.Helper()
	for range 2 {
		if l, err := parse.Parse(s); !alike(l, want) || err != nil {
			t.Fatalf("P1401: Parse(%s): %s, %v; want %s", cut(s), told(l), err, told(want))
		}
	}
}

// refuses holds Parse(s) against a Fault, twice.
func refuses(t *testing.T, s string, want api.Fault) {
	t.Helper()
	for range 2 {
		l, err := parse.Parse(s)
		var f *api.Fault
		if !alike(l, parse.Line{}) || !errors.As(err, &f) || f != err || *f != want || !errors.Is(err, want.Err) {
			t.Fatalf("P1401: Parse(%s): %s, %v; want %v", cut(s), told(l), err, &want)
		}
	}
}

func wrong(at int, of error) api.Fault { return api.Fault{Part: "token", At: at, Err: of} }

// The promise told another way: each token is a letter, so that a line is a word
// of letters; how many `(` are open at a place is how far what was opened and
// closed up to there stands above the least that it ever was.

var (
	labelled  = regexp.MustCompile(`^[nr]:`)
	commanded = regexp.MustCompile(`^[nrd]`)
	bracketed = regexp.MustCompile(`^(.*)\(r\)$`)
)

// letters answers a letter for each token.
func letters(list []lex.Token) string {
	b := make([]byte, len(list))
	for i, t := range list {
		switch t.Kind {
		case lex.Name:
			b[i] = 'n'
			if strings.Contains(" c0 c1 c2 c3 c4 c5 c6 c7 c8 c9 c10 c11 c12 c13 c14 c15 ", " "+t.Text+" ") {
				b[i] = 'r'
			}
		case lex.Dot:
			b[i] = 'd'
		case lex.Sign:
			b[i] = t.Text[0]
		default:
			b[i] = '?'
		}
	}
	return string(b)
}

// wanted tells P1401's Parse of s.
func wanted(s string) (parse.Line, *api.Fault) {
	list, err := lex.Line(s)
	if err != nil {
		f, ok := errors.AsType[*api.Fault](err)
		if !ok {
			panic(err)
		}
		return parse.Line{}, f
	}
	l, at, all := parse.Line{}, 0, letters(list)
	if labelled.MatchString(all) {
		if all[0] == 'r' {
			f := wrong(0, api.ErrName)
			return parse.Line{}, &f
		}
		l.Label, at = list[0].Text, 2
	}
	if at == len(list) {
		return l, nil
	}
	if !commanded.MatchString(all[at:]) {
		f := wrong(at, api.ErrForm)
		return parse.Line{}, &f
	}
	l.Name, l.Dot = list[at].Text, all[at] == 'd'
	at++
	if at == len(list) {
		return l, nil
	}
	for _, one := range strings.Split(split(all[at:]), ";") {
		if one == "" {
			f := wrong(at, api.ErrForm)
			return parse.Line{}, &f
		}
		l.Args = append(l.Args, list[at:at+len(one)])
		at += len(one) + 1
	}
	return l, nil
}

// split writes `;` for each `,` that is between operands.
func split(all string) string {
	b := []byte(all)
	stands, least := 0, 0
	for i, c := range b {
		switch c {
		case '(':
			stands++
		case ')':
			stands--
		}
		least = min(least, stands)
		if c == ',' && stands == least {
			b[i] = ';'
		}
	}
	return string(b)
}

// check holds Parse(s) against the promise, and tells whether it is no error.
func check(t *testing.T, s string) bool {
	t.Helper()
	want, f := wanted(s)
	if f != nil {
		refuses(t, s, *f)
		return false
	}
	answers(t, s, want)
	return true
}

// tokens answers what lex makes of s.
func tokens(t *testing.T, s string) []lex.Token {
	t.Helper()
	l, err := lex.Line(s)
	if err != nil {
		t.Fatalf("Line(%s): %v", cut(s), err)
	}
	return l
}

func TestLines(t *testing.T) { // P1401, P3, P4
	name := func(text string, at int) lex.Token { return lex.Token{Kind: lex.Name, Text: text, At: at} }
	sign := func(text string, at int) lex.Token { return lex.Token{Kind: lex.Sign, Text: text, At: at} }
	text := func(text string, at int) lex.Token { return lex.Token{Kind: lex.Text, Text: text, At: at} }
	num := func(text string, n int64, at int) lex.Token {
		return lex.Token{Kind: lex.Num, Text: text, N: n, At: at}
	}
	for s, want := range map[string]parse.Line{
		"":                   {},
		" \t; x: nop":        {},
		"x:":                 {Label: "x"},
		"\tx : ; nop":        {Label: "x"},
		"nop":                {Name: "nop"},
		"x: nop":             {Label: "x", Name: "nop"},
		"x:nop;c1":           {Label: "x", Name: "nop"},
		".data":              {Name: "data", Dot: true},
		"x: .data":           {Label: "x", Name: "data", Dot: true},
		"x.code":             {Name: "x.code"},
		"x:.code":            {Label: "x", Name: "code", Dot: true},
		"a.b_9: c.d":         {Label: "a.b_9", Name: "c.d"},
		"nop: nop":           {Label: "nop", Name: "nop"},
		"abcdefghijklmnop:":  {Label: "abcdefghijklmnop"},
		"c1":                 {Name: "c1"},
		"c15 c0":             {Name: "c15", Args: [][]lex.Token{{name("c0", 4)}}},
		"c16: c1":            {Label: "c16", Name: "c1"},
		"c01: nop":           {Label: "c01", Name: "nop"},
		"C1:":                {Label: "C1"},
		"c:":                 {Label: "c"},
		"c1.:":               {Label: "c1."},
		"add c1, c2,c3":      {Name: "add", Args: [][]lex.Token{{name("c1", 4)}, {name("c2", 8)}, {name("c3", 11)}}},
		"x: lw c1,-0x4(c2)":  {Label: "x", Name: "lw", Args: [][]lex.Token{{name("c1", 6)}, {sign("-", 9), num("0x4", 4, 10), sign("(", 13), name("c2", 14), sign(")", 16)}}},
		".word 1, x<<2":      {Name: "word", Dot: true, Args: [][]lex.Token{{num("1", 1, 6)}, {name("x", 9), sign("<<", 10), num("2", 2, 12)}}},
		".text \",\",\"(\"":  {Name: "text", Dot: true, Args: [][]lex.Token{{text(",", 6)}, {text("(", 10)}}},
		".text \"\", \"\"":   {Name: "text", Dot: true, Args: [][]lex.Token{{text("", 6)}, {text("", 10)}}},
		".text (\")\", \"\"": {Name: "text", Dot: true, Args: [][]lex.Token{{sign("(", 6), text(")", 7), sign(",", 10), text("", 12)}}},
		"f (a,b),c":          {Name: "f", Args: [][]lex.Token{{sign("(", 2), name("a", 3), sign(",", 4), name("b", 5), sign(")", 6)}, {name("c", 8)}}},
		"f (a,b":             {Name: "f", Args: [][]lex.Token{{sign("(", 2), name("a", 3), sign(",", 4), name("b", 5)}}},
		"f (,":               {Name: "f", Args: [][]lex.Token{{sign("(", 2), sign(",", 3)}}},
		"f (,),)":            {Name: "f", Args: [][]lex.Token{{sign("(", 2), sign(",", 3), sign(")", 4)}, {sign(")", 6)}}},
		"f ),)(,)":           {Name: "f", Args: [][]lex.Token{{sign(")", 2)}, {sign(")", 4), sign("(", 5), sign(",", 6), sign(")", 7)}}},
		"f ((),":             {Name: "f", Args: [][]lex.Token{{sign("(", 2), sign("(", 3), sign(")", 4), sign(",", 5)}}},
		"f )),(,":            {Name: "f", Args: [][]lex.Token{{sign(")", 2), sign(")", 3)}, {sign("(", 5), sign(",", 6)}}},
		"f :":                {Label: "f"},
		"f: g: h":            {Label: "f", Name: "g", Args: [][]lex.Token{{sign(":", 4), name("h", 6)}}},
		"f: c1:":             {Label: "f", Name: "c1", Args: [][]lex.Token{{sign(":", 5)}}},
		".f:":                {Name: "f", Dot: true, Args: [][]lex.Token{{sign(":", 2)}}},
		"f .g":               {Name: "f", Args: [][]lex.Token{{{Kind: lex.Dot, Text: "g", At: 2}}}},
		".f .g":              {Name: "f", Dot: true, Args: [][]lex.Token{{{Kind: lex.Dot, Text: "g", At: 3}}}},
		"f \":\"":            {Name: "f", Args: [][]lex.Token{{text(":", 2)}}},
		"c1 \":\"":           {Name: "c1", Args: [][]lex.Token{{text(":", 3)}}},
	} {
		answers(t, s, want)
		if !check(t, s) {
			t.Errorf("P1401, told another way, refuses %q", s)
		}
	}
}

func TestFaults(t *testing.T) { // P1401, P3, P4, P6
	for s, want := range map[string]api.Fault{
		"c0:":            wrong(0, api.ErrName),
		"c15 :":          wrong(0, api.ErrName),
		"c7: nop":        wrong(0, api.ErrName),
		"c7: 5":          wrong(0, api.ErrName),
		"c7: f ,":        wrong(0, api.ErrName),
		"c7::":           wrong(0, api.ErrName),
		"5":              wrong(0, api.ErrForm),
		"\"x\"":          wrong(0, api.ErrForm),
		"\"x\": nop":     wrong(0, api.ErrForm),
		"5: nop":         wrong(0, api.ErrForm),
		":":              wrong(0, api.ErrForm),
		": nop":          wrong(0, api.ErrForm),
		",":              wrong(0, api.ErrForm),
		"(":              wrong(0, api.ErrForm),
		")":              wrong(0, api.ErrForm),
		"- f ,":          wrong(0, api.ErrForm),
		"x: 5":           wrong(2, api.ErrForm),
		"x: \"x\"":       wrong(2, api.ErrForm),
		"x::":            wrong(2, api.ErrForm),
		"x: : nop":       wrong(2, api.ErrForm),
		"x: , nop":       wrong(2, api.ErrForm),
		"x: (nop":        wrong(2, api.ErrForm),
		"f ,":            wrong(1, api.ErrForm),
		".f ,":           wrong(1, api.ErrForm),
		"f , ,":          wrong(1, api.ErrForm),
		"f ,a":           wrong(1, api.ErrForm),
		"f a,":           wrong(3, api.ErrForm),
		"f a ; , b":      {},
		"f a, ; b":       wrong(3, api.ErrForm),
		"f a,,b":         wrong(3, api.ErrForm),
		"f a,,":          wrong(3, api.ErrForm),
		"f a,b c,,d,,":   wrong(6, api.ErrForm),
		"x: f a,":        wrong(5, api.ErrForm),
		"x: .f ,a":       wrong(3, api.ErrForm),
		"f (a,b),":       wrong(7, api.ErrForm),
		"f (,),,(":       wrong(5, api.ErrForm),
		"f ),":           wrong(3, api.ErrForm),
		"f )(),":         wrong(5, api.ErrForm),
		"f \"(\",":       wrong(3, api.ErrForm),
		"f (\")\"),":     wrong(5, api.ErrForm),
		"f: g:,":         wrong(5, api.ErrForm),
		".f \",\",,\"\"": wrong(3, api.ErrForm),
	} {
		if want == (api.Fault{}) {
			if !check(t, s) {
				t.Errorf("P1401: %q is refused", s)
			}
			continue
		}
		refuses(t, s, want)
		if check(t, s) {
			t.Errorf("P1401, told another way, takes %q", s)
		}
	}
}

// TestOfLex: lex's errors come as they are, ahead of all others.
func TestOfLex(t *testing.T) { // P1401, P4, P6
	for s, want := range map[string]api.Fault{
		"#":                        {Part: "col", At: 0, Err: api.ErrForm},
		"c1: 5z":                   {Part: "col", At: 4, Err: api.ErrForm},
		"5 5z":                     {Part: "col", At: 2, Err: api.ErrForm},
		"f ,, \"":                  {Part: "col", At: 5, Err: api.ErrForm},
		"x:\n":                     {Part: "col", At: 2, Err: api.ErrForm},
		": 1099511627776":          {Part: "col", At: 2, Err: api.ErrOver},
		"f , 0xfffffffffff":        {Part: "col", At: 4, Err: api.ErrOver},
		"abcdefghijklmnopq:":       {Part: "col", At: 0, Err: api.ErrLong},
		"c0:abcdefghijklmnopq 5z":  {Part: "col", At: 3, Err: api.ErrLong},
		"c0: . abcdefghijklmnopqr": {Part: "col", At: 4, Err: api.ErrForm},
	} {
		refuses(t, s, want)
		check(t, s)
	}
}

// TestAllShort: each line of at most five of these.
func TestAllShort(t *testing.T) { // P1401, P1, P3
	parts := strings.Split("f|c3|.d|5|\",\"|\"(\"|\":\"|(|)|,|:", "|")
	lines, taken := []string{""}, 0
	for range 5 {
		var next []string
		for _, s := range lines {
			for _, p := range parts {
				next = append(next, s+p+" ")
				if check(t, s+p+" ") {
					taken++
				}
			}
		}
		lines = next
	}
	if len(lines) != 11*11*11*11*11 || taken < 20000 {
		t.Errorf("%d lines, %d of all taken", len(lines), taken)
	}
}

// TestBrackets: each line of at most eight of these behind each beginning.
func TestBrackets(t *testing.T) { // P1401: operands
	taken := 0
	for _, begin := range []string{"f ", ".f ", "x: f "} {
		lines := []string{begin}
		for range 8 {
			var next []string
			for _, s := range lines {
				for _, p := range []string{"a", "(", ")", ","} {
					next = append(next, s+p)
				}
			}
			lines = next
			if begin != "f " && len(lines) > 1<<12 {
				break
			}
			for _, s := range lines {
				if check(t, s) {
					taken++
				}
			}
		}
	}
	if taken < 40000 {
		t.Errorf("only %d are taken", taken)
	}
}

// chance answers numbers that look as by chance, the same ones each time.
type chance uint64

func (c *chance) below(n int) int {
	*c = *c*6364136223846793005 + 1442695040888963407
	return int(uint64(*c) >> 33 % uint64(n))
}

func TestByChance(t *testing.T) { // P1401, P1, P3
	c := chance(14)
	one := []string{"a", "_x.9", "c0", "c15", "c16", "7", "0x1F", ".d", "\"\"", "\"a;b, (c)\"", "\",\"", "\":\"", ":", "+", "-", "*", "&", "|", "^", "~", "<<", ">>", "(", "(", "(", "(", ")", ")", ")", ")", ",", ",", ", a"}
	taken := 0
	for range 60000 {
		s := []string{"", "x:", "x: ", "c3:", "x::", "7 ", "c30\t: "}[c.below(3)*c.below(4)]
		s += []string{"", "nop ", "nop ", ".word ", ".text ", "c3 ", "(", "nop a", "nop a"}[c.below(9)]
		for range c.below(24) {
			s += one[c.below(len(one))]
			if c.below(2) == 0 {
				s += []string{" ", "\t", "  "}[c.below(3)]
			}
		}
		s += []string{"", "", " ", " ; a, b", ";", "#"}[c.below(6)]
		if check(t, s) {
			taken++
		}
	}
	if taken < 10000 || taken > 50000 {
		t.Errorf("%d lines are taken", taken)
	}
}

// TestBytes: each byte at each place of some lines.
func TestBytes(t *testing.T) { // P1401, P1
	for _, s := range []string{"x: add c1, (c2, c3), 4", ".text \"a,b\", \"c\" ; d", "c1: nop", "f ),(,"} {
		for i := range len(s) + 1 {
			for c := range 256 {
				check(t, s[:i]+string([]byte{byte(c)})+s[i:])
				check(t, s[:i]+string([]byte{byte(c)})+s[min(i+1, len(s)):])
			}
		}
	}
}

func TestLabels(t *testing.T) { // P1401: no register's name is a Label
	for n := range 1200 {
		for _, c := range []string{"c", "C", "d", "cc", "c0", "_c", "c."} {
			s := c + strconv.Itoa(n)
			if c == "c" && n < 16 {
				refuses(t, s+":", wrong(0, api.ErrName))
				refuses(t, " "+s+"\t: nop", wrong(0, api.ErrName))
			} else {
				answers(t, s+":", parse.Line{Label: s})
				answers(t, " "+s+"\t: nop", parse.Line{Label: s, Name: "nop"})
			}
			answers(t, s, parse.Line{Name: s})
			answers(t, "x: "+s, parse.Line{Label: "x", Name: s})
		}
	}
}

// registers holds Reg(l) against an answer, -1 for none, twice.
func registers(t *testing.T, l []lex.Token, want int) {
	t.Helper()
	for range 2 {
		if n, ok := parse.Reg(l); ok != (want >= 0) || n != max(want, 0) {
			t.Fatalf("P1401: Reg(%s): %d, %v; want %d", written(l[:min(len(l), 20)]), n, ok, want)
		}
	}
}

func TestReg(t *testing.T) { // P1401, P1, P3, P4
	registers(t, nil, -1)
	registers(t, []lex.Token{}, -1)
	for n := -300; n < 70000; n++ {
		s := strconv.Itoa(n)
		for _, text := range []string{"c" + s, "C" + s, s, "c0" + s, "c+" + s, "c " + s, "c" + s + " ", "c" + s + ".", " c" + s, "cc" + s, "c0x" + s, "d" + s, "c" + s + "\x00", "x" + s, "r" + s} {
			want := -1
			if text[:1] == "c" && n >= 0 && n < 16 && text == "c"+s {
				want = n
			}
			registers(t, []lex.Token{{Kind: lex.Name, Text: text}}, want)
		}
	}
	for _, text := range []string{"", "c", "c-1", "c-0", "c1_0", "c0b1", "c1e0", "c01", "c00", "c015", "c\uff11", "c\u0661", "c4294967296", "c4294967297", "c18446744073709551616", "c18446744073709551617", "c" + strings.Repeat("0", 1<<20) + "1", "c1" + strings.Repeat("0", 1<<20), "c\n1", "\u04411", "c1c2", "c0x1", "c1a", "ca", "cA", "cf", "c:", "c/", "c1:", "c1/", "c/1"} {
		registers(t, []lex.Token{{Kind: lex.Name, Text: text}}, -1)
	}
	for n := range 16 {
		text := "c" + strconv.Itoa(n)
		for kind := -2; kind < 300; kind++ {
			want := -1
			if kind == lex.Name {
				want = n
			}
			registers(t, []lex.Token{{Kind: kind, Text: text}}, want)
			registers(t, []lex.Token{{Kind: kind, Text: text, N: 3, At: -8}}, want)
			registers(t, []lex.Token{{Kind: kind, Text: text, N: math.MinInt64, At: math.MaxInt}}, want)
		}
		one := lex.Token{Kind: lex.Name, Text: text}
		for _, more := range []lex.Token{{}, one, {Kind: lex.Sign, Text: ","}, {Kind: lex.Sign, Text: ")"}, {Kind: lex.Name, Text: "c1"}} {
			registers(t, []lex.Token{one, more}, -1)
			registers(t, []lex.Token{more, one}, -1)
			registers(t, []lex.Token{one, more, one}, -1)
			registers(t, append([]lex.Token{one}, more)[:1], n)
		}
		registers(t, slices.Repeat([]lex.Token{one}, 1<<16), -1)
		registers(t, []lex.Token{one, one}[:0], -1)
	}
}

// brackets holds Mem(l) against the promise, twice, and tells whether it is one.
func brackets(t *testing.T, l []lex.Token) bool {
	t.Helper()
	var imm []lex.Token
	reg, is := 0, false
	if m := bracketed.FindStringSubmatch(letters(l)); m != nil {
		imm, is = l[:len(m[1])], true
		reg, _ = strconv.Atoi(l[len(l)-2].Text[1:])
	}
	for range 2 {
		if got, n, ok := parse.Mem(l); !slices.Equal(got, imm) || n != reg || ok != is {
			t.Fatalf("P1401: Mem(%s): %s, %d, %v; want %s, %d, %v", written(l[:min(len(l), 20)]), written(got[:min(len(got), 20)]), n, ok, written(imm[:min(len(imm), 20)]), reg, is)
		}
	}
	return is
}

func TestMem(t *testing.T) { // P1401, P3, P4
	for s, want := range map[string]int{
		"(c0)": 0, "(c15)": 15, "4(c3)": 3, "-4(c3)": 3, "x+(y)(c9)": 9, "((c3)": 3, ")(c3)": 3, "a, b(c3)": 3, "(c1)(c2)": 2, "c1(c2)": 2, "\"x\"(c1)": 1, ".x(c10)": 10, ": : (c4)": 4, "(x(c4)": 4,
		"": -1, "(": -1, ")": -1, "c3": -1, "()": -1, "c3)": -1, "(c3": -1, "4": -1, "4 c3": -1, "4(c3": -1, "4 c3)": -1, "(c3))": -1, "((c3))": -1, "4(c3)5": -1, "(c3),": -1, "(c3)x": -1, "(c3 c4)": -1, "4(c3 c4)": -1, "4(-c3)": -1, "4(c3+1)": -1,
		"(x)": -1, "(c16)": -1, "(c03)": -1, "(C3)": -1, "(3)": -1, "(\"c3\")": -1, "(.c)": -1, "4()": -1, ")c3(": -1, "(c3(": -1, ")c3)": -1, "\"(\"c3)": -1, "(c3\")\"": -1, "\"(\"c3\")\"": -1, "4,c3)": -1, "4(c3,": -1, "4:c3)": -1, "4(c3:": -1,
	} {
		l := tokens(t, s)
		imm, reg, ok := parse.Mem(l)
		if ok != (want >= 0) || reg != max(want, 0) || ok && !slices.Equal(imm, l[:len(l)-3]) || !ok && len(imm) != 0 {
			t.Errorf("P1401: Mem(%s): %s, %d, %v; want %d", s, written(imm), reg, ok, want)
		}
		if brackets(t, l) != (want >= 0) {
			t.Errorf("P1401, told another way: Mem(%s)", s)
		}
	}
	brackets(t, nil)
	brackets(t, []lex.Token{})
}

// TestMemOfAll: all of up to five tokens, and all of each three at the end.
func TestMemOfAll(t *testing.T) { // P1401, P1
	some := tokens(t, "x c3 c12 c16 5 .d \"(\" \")\" ( ) , : -")
	taken := 0
	for length := range 6 {
		all := 1
		for range length {
			all *= len(some)
		}
		l := make([]lex.Token, length)
		for i := range all {
			for k, n := 0, i; k < length; k++ {
				l[k], n = some[n%len(some)], n/len(some)
			}
			if brackets(t, l) {
				taken++
			}
		}
	}
	if want := 2 * (1 + 13 + 13*13); taken != want {
		t.Errorf("P1401: %d are taken; want %d", taken, want)
	}
	for open := -1; open < 7; open++ { // tokens that no line has
		for shut := -1; shut < 7; shut++ {
			for reg := -1; reg < 7; reg++ {
				l := []lex.Token{{Kind: 9, Text: "?", N: 5, At: -1}, {Kind: open, Text: "("}, {Kind: reg, Text: "c7"}, {Kind: shut, Text: ")"}}
				imm, n, ok := parse.Mem(l)
				if is := open == lex.Sign && shut == lex.Sign && reg == lex.Name; ok != is || is && (n != 7 || !slices.Equal(imm, l[:1])) || !is && (n != 0 || len(imm) != 0) {
					t.Errorf("P1401: Mem of the kinds %d, %d, %d: %s, %d, %v", open, reg, shut, written(imm), n, ok)
				}
			}
		}
	}
	for _, text := range []string{"", "((", "[", "()", "<", "\x00"} {
		if imm, n, ok := parse.Mem([]lex.Token{{Kind: lex.Sign, Text: text}, {Kind: lex.Name, Text: "c7"}, {Kind: lex.Sign, Text: ")"}}); ok || n != 0 || len(imm) != 0 {
			t.Errorf("P1401: Mem takes %q for (", text)
		}
		if imm, n, ok := parse.Mem([]lex.Token{{Kind: lex.Sign, Text: "("}, {Kind: lex.Name, Text: "c7"}, {Kind: lex.Sign, Text: text}}); ok || n != 0 || len(imm) != 0 {
			t.Errorf("P1401: Mem takes %q for )", text)
		}
	}
}

// piece is some memory.
type piece struct {
	of         string
	begin, end uintptr
}

// room tells where a slice lies, its spare room too.
func room[T any](of string, s []T) piece {
	var one T
	begin := uintptr(unsafe.Pointer(unsafe.SliceData(s)))
	return piece{of, begin, begin + uintptr(cap(s))*unsafe.Sizeof(one)}
}

// apart fails if two of some pieces share any of their memory.
func apart(t *testing.T, all []piece) {
	t.Helper()
	slices.SortFunc(all, func(a, b piece) int {
		switch {
		case a.begin < b.begin:
			return -1
		case a.begin > b.begin:
			return 1
		}
		return 0
	})
	end := piece{}
	for _, p := range all {
		if p.begin == p.end {
			continue
		}
		if p.begin < end.end {
			t.Errorf("P2: %s shares memory with %s", p.of, end.of)
		}
		if p.end > end.end {
			end = p
		}
	}
}

// TestApart: no two lists of answers share memory, those of one answer neither;
// nor do they lie in what was handed in.
func TestApart(t *testing.T) { // P2
	var all []piece
	var kept []parse.Line
	line := "x: .word a, b c, (d, e), f(g), 1, 2, 3, 4, 5, " + strings.Repeat("6 ", 100)
	for i := range 20 {
		l, err := parse.Parse(line)
		if err != nil || len(l.Args) != 10 {
			t.Fatalf("P1401: %s, %v", told(l), err)
		}
		kept = append(kept, l)
		all = append(all, room("Args "+strconv.Itoa(i), l.Args))
		for k, x := range l.Args {
			all = append(all, room("operand "+strconv.Itoa(k)+" of "+strconv.Itoa(i), x))
		}
	}
	apart(t, all)
	want, _ := wanted(line)
	for i, l := range kept {
		if !alike(l, want) {
			t.Errorf("P2: answer %d is changed", i)
		}
		for k, x := range l.Args {
			x = x[:cap(x)]
			for j := range x {
				x[j] = lex.Token{Kind: -1, Text: "changed", N: -1, At: -1}
			}
			l.Args[k] = nil
		}
	}
	refuses(t, line+",,", wrong(len(tokens(t, line))+1, api.ErrForm))
	answers(t, line, want)
}

// TestNothingKept: no text of an answer lies in the line.
func TestNothingKept(t *testing.T) { // P2
	s := strings.Repeat("label", 3) + ": .word name, \"text\", 0x12345 << 10"
	begin := uintptr(unsafe.Pointer(unsafe.StringData(s)))
	l, err := parse.Parse(s)
	if err != nil {
		t.Fatal(err)
	}
	texts := []string{l.Label, l.Name}
	for _, x := range l.Args {
		for _, token := range x {
			texts = append(texts, token.Text)
		}
	}
	if len(texts) != 7 {
		t.Fatalf("%q", texts)
	}
	for _, text := range texts {
		if at := uintptr(unsafe.Pointer(unsafe.StringData(text))); at >= begin && at < begin+uintptr(len(s)) {
			t.Errorf("P2: %q lies in the line", text)
		}
	}
}

// TestNothingIsChanged: what Reg and Mem are handed stays as it is, its spare
// room too; what Mem answers lies elsewhere.
func TestNothingIsChanged(t *testing.T) { // P2
	for _, s := range []string{"", "c1", "c16", "(c1)", "4(c1)", "1+2*x(c1)", "1+2*x(c16)", "1+2*x(c1", "a b c d e f g h i j k l m (c15)"} {
		l := append(tokens(t, s), tokens(t, "more , of these (c2)")...)
		kept, length := slices.Clone(l), len(l)-7
		imm, n, ok := parse.Mem(l[:length])
		parse.Reg(l[:length])
		if !slices.Equal(l, kept) {
			t.Errorf("P2: Mem(%s) has changed what it was handed", s)
		}
		other, _, _ := parse.Mem(l[:length])
		apart(t, []piece{room("what was handed in", l), room("imm", imm), room("the other imm", other)})
		for i := range imm[:cap(imm)] {
			imm[:cap(imm)][i] = lex.Token{Kind: -1, Text: "changed"}
		}
		_ = append(imm, lex.Token{Text: "more"})
		if !slices.Equal(l, kept) || ok && !slices.Equal(other, l[:length-3]) {
			t.Errorf("P2: what Mem(%s) has answered shares memory", s)
		}
		if _, n2, ok2 := parse.Mem(l[:length]); n2 != n || ok2 != ok {
			t.Errorf("P3: Mem(%s): %d, %v; then %d, %v", s, n, ok, n2, ok2)
		}
	}
}

// TestNothingKeptOfMem: an empty answer keeps nothing of what was handed in.
func TestNothingKeptOfMem(t *testing.T) { // P2
	l := tokens(t, "(c1)")
	if imm, _, ok := parse.Mem(l); !ok || len(imm) != 0 || unsafe.SliceData(imm) == unsafe.SliceData(l) {
		t.Error("P2: an empty answer of Mem lies in what was handed in")
	}
}

// TestGreat: lines of many tokens.
func TestGreat(t *testing.T) { // P1401, P1
	const many = 1 << 16
	of := func(s string) parse.Line {
		l := tokens(t, s)
		return parse.Line{Name: l[0].Text, Args: [][]lex.Token{l[1:]}}
	}
	for _, s := range []string{strings.Repeat("(", many), strings.Repeat(")", many), strings.Repeat("(,", many), strings.Repeat("()", many), strings.Repeat("(", many) + strings.Repeat(",)", many), "(" + strings.Repeat("a,", many), strings.Repeat("a ", many)} {
		answers(t, "f "+s, of("f "+s))
	}
	at := 3 * many
	refuses(t, "f "+strings.Repeat("()", many)+",", wrong(2*many+2, api.ErrForm))
	refuses(t, "f "+strings.Repeat("(", many)+strings.Repeat(")", many)+",,", wrong(2*many+2, api.ErrForm))
	refuses(t, "f "+strings.Repeat(")", many)+"(),,", wrong(many+4, api.ErrForm))
	refuses(t, "f "+strings.Repeat("(a)", many)+",", wrong(at+2, api.ErrForm))
	refuses(t, "f "+strings.Repeat("a,", many), wrong(2*many+1, api.ErrForm))
	refuses(t, "f "+strings.Repeat(",", many), wrong(1, api.ErrForm))
	for _, s := range []string{strings.Repeat("a,", many) + "b", strings.Repeat("(,)),", many) + ")", strings.Repeat("\"(\",", many) + "5"} {
		l, err := parse.Parse("x: f " + s)
		if err != nil || len(l.Args) != many+1 || l.Label != "x" || l.Name != "f" {
			t.Fatalf("P1401: many of %s: %d operands, %v", s[:5], len(l.Args), err)
		}
		check(t, "x: f "+s)
	}
	l := slices.Repeat(tokens(t, "(c1)"), many)
	if !brackets(t, l) || brackets(t, l[:len(l)-1]) || brackets(t, l[:len(l)-2]) {
		t.Error("P1401: Mem of many tokens")
	}
}
