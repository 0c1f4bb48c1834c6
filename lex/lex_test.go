package lex_test

import (
	"errors"
	"math/big"
	"regexp"
	"slices"
	"strconv"
	"strings"
	"testing"
	"unsafe"

	"hasp/api"
	"hasp/lex"
)

// The document's own words, as patterns of what a line goes on with.
var (
	aGap  = regexp.MustCompile(`^[ \t]*(;(?s:.*))?`)
	aName = regexp.MustCompile(`^[A-Za-z_][A-Za-z_0-9.]*`)
	aDot  = regexp.MustCompile(`^\.([a-z]+)`)
	aNum  = regexp.MustCompile(`^(0x[0-9a-fA-F]+|[0-9]+)`)
	aWord = regexp.MustCompile(`^[A-Za-z0-9_]`)
	aText = regexp.MustCompile(`^"([\x20\x21\x23-\x7e]*)"`)
	aSign = regexp.MustCompile(`^([(),:+\-*&|^~]|<<|>>)`)
)

// wanted tells P1201 by patterns: the tokens, or where the Fault is and of what.
func wanted(s string) ([]lex.Token, int, api.Errno) {
	list := []lex.Token{}
	at := len(aGap.FindString(s))
	for at < len(s) {
		rest := s[at:]
		t, width := lex.Token{At: at}, 0
		if m := aName.FindString(rest); m != "" {
			if len(m) > 16 {
				return nil, at, api.ErrLong
			}
			t.Kind, t.Text, width = lex.Name, m, len(m)
		} else if m := aDot.FindStringSubmatch(rest); m != nil {
			t.Kind, t.Text, width = lex.Dot, m[1], len(m[0])
		} else if m := aNum.FindString(rest); m != "" {
			if aWord.MatchString(rest[len(m):]) {
				return nil, at, api.ErrForm
			}
			n := number(m)
			if n.Cmp(new(big.Int).Lsh(big.NewInt(1), 40)) >= 0 {
				return nil, at, api.ErrOver
			}
			t.Kind, t.Text, t.N, width = lex.Num, m, n.Int64(), len(m)
		} else if m := aText.FindStringSubmatch(rest); m != nil {
			t.Kind, t.Text, width = lex.Text, m[1], len(m[0])
		} else if m := aSign.FindString(rest); m != "" {
			t.Kind, t.Text, width = lex.Sign, m, len(m)
		} else {
			return nil, at, api.ErrForm
		}
		list = append(list, t)
		at += width
		at += len(aGap.FindString(s[at:]))
	}
	return list, 0, api.OK
}

// number reads digits, however many.
func number(s string) *big.Int {
	n, ok := new(big.Int), false
	if strings.HasPrefix(s, "0x") {
		n, ok = n.SetString(s[2:], 16)
	} else {
		n, ok = n.SetString(s, 10)
	}
	if !ok {
		panic(s)
	}
	return n
}

// cut keeps what is told of a long line short.
func cut(s string) string { return strconv.QuoteToASCII(s[:min(len(s), 200)]) }

// answers holds Line(s) against tokens, twice.
func answers(t *testing.T, s string, want []lex.Token) {
	t.Helper()
	for range 2 {
		if l, err := lex.Line(s); !slices.Equal(l, want) || err != nil {
			t.Fatalf("P1201: Line(%s): %+v, %v; want %+v", cut(s), l[:min(len(l), 20)], err, want[:min(len(want), 20)])
		}
	}
}

// refuses holds Line(s) against a Fault, twice.
func refuses(t *testing.T, s string, at int, wrong api.Errno) {
	t.Helper()
	for range 2 {
		l, err := lex.Line(s)
		var f *api.Fault
		if len(l) != 0 || !errors.As(err, &f) || f != err || *f != (api.Fault{Part: "col", At: at, Err: wrong}) || !errors.Is(err, wrong) {
			t.Fatalf("P1201: Line(%s): %+v, %v; want col %d: %v", cut(s), l[:min(len(l), 20)], err, at, wrong)
		}
	}
}

// check holds Line(s) against the patterns, and tells whether it is no error.
func check(t *testing.T, s string) bool {
	t.Helper()
	want, at, wrong := wanted(s)
	if wrong != api.OK {
		refuses(t, s, at, wrong)
		return false
	}
	answers(t, s, want)
	return true
}

func is(kind int, text string, n int64, at int) lex.Token {
	return lex.Token{Kind: kind, Text: text, N: n, At: at}
}

func TestKinds(t *testing.T) { // P1201
	if got := [...]int{lex.Name, lex.Num, lex.Sign, lex.Dot, lex.Text}; got != [...]int{1, 2, 3, 4, 5} {
		t.Errorf("the kinds are %v", got)
	}
}

func TestLines(t *testing.T) { // P1201, P3, P4
	for s, want := range map[string][]lex.Token{
		"":                            nil,
		" ":                           nil,
		"\t \t":                       nil,
		";":                           nil,
		" \t; what is left \"out\" #": nil,
		";\x00\n\xff\u00e9":           nil,
		"halt":                        {is(lex.Name, "halt", 0, 0)},
		" \thalt\t ":                  {is(lex.Name, "halt", 0, 2)},
		"halt;":                       {is(lex.Name, "halt", 0, 0)},
		"halt ; add":                  {is(lex.Name, "halt", 0, 0)},
		"loop: cinci c3, c3, -16":     {is(lex.Name, "loop", 0, 0), is(lex.Sign, ":", 0, 4), is(lex.Name, "cinci", 0, 6), is(lex.Name, "c3", 0, 12), is(lex.Sign, ",", 0, 14), is(lex.Name, "c3", 0, 16), is(lex.Sign, ",", 0, 18), is(lex.Sign, "-", 0, 20), is(lex.Num, "16", 16, 21)},
		"lw c5,0x4(c3)":               {is(lex.Name, "lw", 0, 0), is(lex.Name, "c5", 0, 3), is(lex.Sign, ",", 0, 5), is(lex.Num, "0x4", 4, 6), is(lex.Sign, "(", 0, 9), is(lex.Name, "c3", 0, 10), is(lex.Sign, ")", 0, 12)},
		".word 1<<4>>~x^2|3&4*5+6":    {is(lex.Dot, "word", 0, 0), is(lex.Num, "1", 1, 6), is(lex.Sign, "<<", 0, 7), is(lex.Num, "4", 4, 9), is(lex.Sign, ">>", 0, 10), is(lex.Sign, "~", 0, 12), is(lex.Name, "x", 0, 13), is(lex.Sign, "^", 0, 14), is(lex.Num, "2", 2, 15), is(lex.Sign, "|", 0, 16), is(lex.Num, "3", 3, 17), is(lex.Sign, "&", 0, 18), is(lex.Num, "4", 4, 19), is(lex.Sign, "*", 0, 20), is(lex.Num, "5", 5, 21), is(lex.Sign, "+", 0, 22), is(lex.Num, "6", 6, 23)},
		".text \"a;b\\\", \"\";\"":    {is(lex.Dot, "text", 0, 0), is(lex.Text, "a;b\\", 0, 6), is(lex.Sign, ",", 0, 12), is(lex.Text, "", 0, 14)},
		"\"a\"\"b\"c\"d\"1\"\".e":     {is(lex.Text, "a", 0, 0), is(lex.Text, "b", 0, 3), is(lex.Name, "c", 0, 6), is(lex.Text, "d", 0, 7), is(lex.Num, "1", 1, 10), is(lex.Text, "", 0, 11), is(lex.Dot, "e", 0, 13)},
		".data.code":                  {is(lex.Dot, "data", 0, 0), is(lex.Dot, "code", 0, 5)},
		".dataX":                      {is(lex.Dot, "data", 0, 0), is(lex.Name, "X", 0, 5)},
		".data_":                      {is(lex.Dot, "data", 0, 0), is(lex.Name, "_", 0, 5)},
		".data007":                    {is(lex.Dot, "data", 0, 0), is(lex.Num, "007", 7, 5)},
		"x.y.data..":                  {is(lex.Name, "x.y.data..", 0, 0)},
		"_.":                          {is(lex.Name, "_.", 0, 0)},
		"0x0.x":                       {is(lex.Num, "0x0", 0, 0), is(lex.Dot, "x", 0, 3)},
		"00 0x00 0xAbCdEf":            {is(lex.Num, "00", 0, 0), is(lex.Num, "0x00", 0, 3), is(lex.Num, "0xAbCdEf", 0xabcdef, 8)},
		">>>><<":                      {is(lex.Sign, ">>", 0, 0), is(lex.Sign, ">>", 0, 2), is(lex.Sign, "<<", 0, 4)},
		"--1":                         {is(lex.Sign, "-", 0, 0), is(lex.Sign, "-", 0, 1), is(lex.Num, "1", 1, 2)},
	} {
		answers(t, s, want)
		if !check(t, s) {
			t.Errorf("the patterns refuse %q", s)
		}
	}
}

func TestFaults(t *testing.T) { // P1201, P3, P4, P6
	for s, want := range map[string]api.Fault{
		"#":                                  {At: 0, Err: api.ErrForm},
		"\t #":                               {At: 2, Err: api.ErrForm},
		"a#b":                                {At: 1, Err: api.ErrForm},
		"halt\r":                             {At: 4, Err: api.ErrForm},
		"halt\n":                             {At: 4, Err: api.ErrForm},
		"\v":                                 {At: 0, Err: api.ErrForm},
		"\x00;":                              {At: 0, Err: api.ErrForm},
		"\u00a0":                             {At: 0, Err: api.ErrForm},
		"a\u00e9":                            {At: 1, Err: api.ErrForm},
		"1\u00e9":                            {At: 1, Err: api.ErrForm},
		"1\u0661":                            {At: 1, Err: api.ErrForm},
		"\xff":                               {At: 0, Err: api.ErrForm},
		"\u00e9 #":                           {At: 0, Err: api.ErrForm},
		"\"\u00e9\" #":                       {At: 0, Err: api.ErrForm},
		"\"\x7f\"":                           {At: 0, Err: api.ErrForm},
		"\"\x1f\"":                           {At: 0, Err: api.ErrForm},
		"\"\t\"":                             {At: 0, Err: api.ErrForm},
		"x \"a ; b":                          {At: 2, Err: api.ErrForm},
		"x \"a\" \"":                         {At: 6, Err: api.ErrForm},
		"\"\\\"\"":                           {At: 3, Err: api.ErrForm},
		".":                                  {At: 0, Err: api.ErrForm},
		". data":                             {At: 0, Err: api.ErrForm},
		".Data":                              {At: 0, Err: api.ErrForm},
		"._":                                 {At: 0, Err: api.ErrForm},
		".1":                                 {At: 0, Err: api.ErrForm},
		"..a":                                {At: 0, Err: api.ErrForm},
		".a.":                                {At: 2, Err: api.ErrForm},
		"1.":                                 {At: 1, Err: api.ErrForm},
		"0x1.5":                              {At: 3, Err: api.ErrForm},
		"<":                                  {At: 0, Err: api.ErrForm},
		">":                                  {At: 0, Err: api.ErrForm},
		"< <":                                {At: 0, Err: api.ErrForm},
		"><":                                 {At: 0, Err: api.ErrForm},
		"<<<":                                {At: 2, Err: api.ErrForm},
		">>>":                                {At: 2, Err: api.ErrForm},
		"1 =":                                {At: 2, Err: api.ErrForm},
		"0x":                                 {At: 0, Err: api.ErrForm},
		"0x ":                                {At: 0, Err: api.ErrForm},
		"0x_1":                               {At: 0, Err: api.ErrForm},
		"0x1_":                               {At: 0, Err: api.ErrForm},
		"0xX":                                {At: 0, Err: api.ErrForm},
		"0xx1":                               {At: 0, Err: api.ErrForm},
		"00x1":                               {At: 0, Err: api.ErrForm},
		"0X1F":                               {At: 0, Err: api.ErrForm},
		"0b1":                                {At: 0, Err: api.ErrForm},
		"0o7":                                {At: 0, Err: api.ErrForm},
		"1_000":                              {At: 0, Err: api.ErrForm},
		"1e3":                                {At: 0, Err: api.ErrForm},
		"7x":                                 {At: 0, Err: api.ErrForm},
		"7Z":                                 {At: 0, Err: api.ErrForm},
		"5, 1a, #":                           {At: 3, Err: api.ErrForm},
		"#, 1a":                              {At: 0, Err: api.ErrForm},
		"9999999999999 #":                    {At: 0, Err: api.ErrOver},
		"9999999999999_":                     {At: 0, Err: api.ErrForm},
		"0xfffffffffffg":                     {At: 0, Err: api.ErrForm},
		"0xfffffffffff .":                    {At: 0, Err: api.ErrOver},
		"abcdefghijklmnopq #":                {At: 0, Err: api.ErrLong},
		"# abcdefghijklmnopq":                {At: 0, Err: api.ErrForm},
		"1z abcdefghijklmnopq 9999999999999": {At: 0, Err: api.ErrForm},
		"abcdefghijklmnopq 9999999999999 1z": {At: 0, Err: api.ErrLong},
		"9999999999999 1z abcdefghijklmnopq": {At: 0, Err: api.ErrOver},
		"a:\t9999999999999;":                 {At: 3, Err: api.ErrOver},
		"a:\tabcdefghijklmnopq;":             {At: 3, Err: api.ErrLong},
	} {
		wrong, ok := want.Err.(api.Errno)
		if !ok {
			t.Fatalf("%q wants no Errno", s)
		}
		refuses(t, s, want.At, wrong)
		if check(t, s) {
			t.Errorf("the patterns take %q", s)
		}
	}
}

// TestNames: P1201 counts a Name's bytes, its dots too; a Dot and a Text may
// have any number.
func TestNames(t *testing.T) {
	for _, end := range []string{"", " ", ";", ":", "(", "\"\"", "\t.a"} {
		for n := 1; n <= 40; n++ {
			for _, s := range []string{strings.Repeat("a", n), "_" + strings.Repeat(".", n-1), "Z" + strings.Repeat("9", n-1), strings.Repeat("_", n)} {
				if taken := check(t, " "+s+end); taken != (n <= 16) {
					t.Errorf("P1201: a Name of %d bytes: %v", n, taken)
				}
			}
			if !check(t, "."+strings.Repeat("a", n)+end) || !check(t, "\""+strings.Repeat("a", n)+"\""+end) {
				t.Errorf("P1201: a Dot, or a Text, of %d bytes is refused", n)
			}
		}
	}
	refuses(t, "x "+strings.Repeat("a", 1<<20), 2, api.ErrLong)
}

// TestNumbers: about P1201's bound, and where numbers of 32, 63 and 64 bits end:
// none is to be taken for what is left of it there.
func TestNumbers(t *testing.T) {
	const bound = 1 << 40
	one := big.NewInt(1)
	for bits := range 140 {
		power := new(big.Int).Lsh(one, uint(bits))
		for _, more := range []int64{-1, 0, 1, 2, 12345} {
			n := new(big.Int).Add(power, big.NewInt(more))
			for _, s := range []string{n.Text(10), "0x" + n.Text(16), "0x" + strings.ToUpper(n.Text(16)), "000000000000000000000" + n.Text(10), "0x0000000000000000000000" + n.Text(16)} {
				if n.Cmp(big.NewInt(bound)) < 0 {
					answers(t, "\t"+s, []lex.Token{is(lex.Num, s, n.Int64(), 1)})
				} else {
					refuses(t, "\t"+s, 1, api.ErrOver)
				}
				refuses(t, "\t"+s+"_", 1, api.ErrForm)
				check(t, s+"-"+s+".a")
			}
		}
	}
	zeros := strings.Repeat("0", 1<<20)
	answers(t, zeros+"7", []lex.Token{is(lex.Num, zeros+"7", 7, 0)})
	answers(t, "0x"+zeros+"a", []lex.Token{is(lex.Num, "0x"+zeros+"a", 10, 0)})
	refuses(t, "8"+zeros, 0, api.ErrOver)
	refuses(t, "0x8"+zeros, 0, api.ErrOver)
	refuses(t, "8"+zeros+"x", 0, api.ErrForm)
}

// TestBytes: each byte, and each two of them, at each place where a token
// begins, goes on, or ends.
func TestBytes(t *testing.T) { // P1201, P1
	for a := range 256 {
		for b := range 256 {
			check(t, string([]byte{byte(a), byte(b)}))
		}
		c := string([]byte{byte(a)})
		for _, s := range []string{"", "a", "a.", "_", "0", "1", "12", "0x", "0x1", ".", ".a", "\"", "\"a", "\"a\"", "<", "<<", "-", " ", "\t", ";", "a ", "1 "} {
			for _, end := range []string{"", "a", "1", "x", "x1", "_", ".", ".a", "\"", "\" ", ";", " ", "<", ">"} {
				check(t, s+c+end)
			}
		}
	}
}

// TestTextBytes: what a Text may hold, told byte by byte.
func TestTextBytes(t *testing.T) { // P1201
	for a := range 256 {
		c := string([]byte{byte(a)})
		if a >= 0x20 && a <= 0x7e && c != "\"" {
			answers(t, "\""+c+"\"", []lex.Token{is(lex.Text, c, 0, 0)})
			answers(t, "1 \"a"+c+"b\"", []lex.Token{is(lex.Num, "1", 1, 0), is(lex.Text, "a"+c+"b", 0, 2)})
		} else if c != "\"" {
			refuses(t, "\""+c+"\"", 0, api.ErrForm)
			refuses(t, "1 \"a"+c+"b\"", 2, api.ErrForm)
		}
	}
}

// TestShort: each line of at most four of these.
func TestShort(t *testing.T) { // P1201, P1, P3
	parts := strings.Split("a|Z|x|_|0|1|.|\"|<|>|+|;| |\t|#|\xc3", "|")
	lines, taken := []string{""}, 0
	for range 4 {
		var next []string
		for _, s := range lines {
			for _, p := range parts {
				next = append(next, s+p)
				if check(t, s+p) {
					taken++
				}
			}
		}
		lines = next
	}
	if len(lines) != 1<<16 || taken < 1<<13 {
		t.Errorf("%d lines, %d of all taken", len(lines), taken)
	}
}

// TestLong: lines of many parts, by chance, but the same ones each time.
func TestLong(t *testing.T) { // P1201, P1, P3
	good := []string{" ", "\t", "  ", "a", "_x.9", "abcdefghijklmnop", ".data", ".a", "0", "007", "0x1F", "0xfF", "1099511627775", "0xffffffffff", "\"\"", "\"a;b\"", "(", ")", ",", ":", "+", "-", "*", "&", "|", "^", "~", "<<", ">>"}
	bad := []string{"#", "<", ">", ".", "\"", "0x", "1a", "\n", "\u00e9", "abcdefghijklmnopq", "1099511627776", "0x10000000000", ";"}
	seed := uint32(1)
	chance := func(n int) int {
		seed = seed*1664525 + 1013904223
		return int(seed>>8) % n
	}
	taken := 0
	for range 20000 {
		s := ""
		for range chance(30) {
			if s += good[chance(len(good))]; chance(2) == 0 {
				s += " "
			}
			if chance(60) == 0 {
				s += bad[chance(len(bad))]
			}
		}
		if check(t, s) {
			taken++
		}
	}
	if taken < 5000 || taken > 15000 {
		t.Errorf("%d lines are taken", taken)
	}
}

// TestGreat: lines as long as a text may be, and longer, of one thing.
func TestGreat(t *testing.T) { // P1201, P1
	const n = 1 << 20
	for _, s := range []string{strings.Repeat(" \t", n), ";" + strings.Repeat("\xff", n), strings.Repeat(" ", n) + ";" + strings.Repeat("a", n)} {
		answers(t, s, nil)
	}
	for _, part := range []string{"(", "a ", ".a", "1,", "<<", "\"\"", "0x1:"} {
		one, err := lex.Line(part)
		l, err2 := lex.Line(strings.Repeat(part, n/8))
		if err != nil || err2 != nil || len(one) == 0 || len(l) != n/8*len(one) {
			t.Fatalf("P1201: %d of %q: %d tokens, %v", n/8, part, len(l), err2)
		}
		for i, token := range l {
			want := one[i%len(one)]
			if want.At += i / len(one) * len(part); token != want {
				t.Fatalf("P1201: %q: token %d: %+v; want %+v", part, i, token, want)
			}
		}
		refuses(t, strings.Repeat(part, n/8)+" #", len(part)*n/8+1, api.ErrForm)
	}
	long := strings.Repeat("x", n)
	answers(t, "\""+long+"\"", []lex.Token{is(lex.Text, long, 0, 0)})
	answers(t, "."+long, []lex.Token{is(lex.Dot, long, 0, 0)})
	refuses(t, "\""+long, 0, api.ErrForm)
}

// TestNew: whatever is done to an answer, its spare room too, no other one is
// changed by it, be it an earlier or a later one; nor by an error between.
func TestNew(t *testing.T) { // P2, P3, P5
	const line = "a: .text \"b\", 0x1F << 2 ; c"
	want, _, _ := wanted(line)
	kept, _ := lex.Line(line)
	first, _ := lex.Line(line)
	last, _ := lex.Line(line)
	whole := first[:cap(first)]
	for i := range whole {
		whole[i] = is(-1, "changed", -1, -1)
	}
	refuses(t, line[:11]+"\x00", 9, api.ErrForm)
	if !slices.Equal(kept, want) || !slices.Equal(last, want) {
		t.Error("P2: a changed answer changes others")
	}
	answers(t, line, want)
	kept, last = append(kept, is(lex.Name, "more", 0, 0)), append(last, is(lex.Name, "other", 0, 0))
	if kept[len(want)].Text != "more" || last[len(want)].Text != "other" {
		t.Error("P2: two answers share their spare room")
	}
}

// TestNothingKept: a token is new memory: no text of one lies in the line.
func TestNothingKept(t *testing.T) { // P2
	line := strings.Repeat("name .dot 0x12345 \"text\" << >> ( , ", 10)
	begin := uintptr(unsafe.Pointer(unsafe.StringData(line)))
	l, err := lex.Line(line)
	if err != nil || len(l) != 80 {
		t.Fatalf("%d tokens, %v", len(l), err)
	}
	for _, token := range l {
		if at := uintptr(unsafe.Pointer(unsafe.StringData(token.Text))); at >= begin && at < begin+uintptr(len(line)) {
			t.Errorf("P2: %+v lies in the line", token)
		}
	}
}
