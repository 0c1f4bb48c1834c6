package man_test

import (
	"fmt"
	"math/big"
	"regexp"
	"slices"
	"strings"
	"testing"

	"hasp/api"
	"hasp/man"
)

// The lines that there are, by the letter of their kind.
var forms = map[string]*regexp.Regexp{
	"c": regexp.MustCompile(`^comp ([^ \n]*) (0|[1-9][0-9]*)\n$`),
	"i": regexp.MustCompile(`^import ([^ \n]*) ([^ \n]*) ([^ \n]*)\n$`),
	"s": regexp.MustCompile(`^share ([^ \n]*) (0|[1-9][0-9]*)\n$`),
	"g": regexp.MustCompile(`^grant ([^ \n]*) ([^ \n]*) (r|w|rw)\n$`),
	"!": regexp.MustCompile(`^start ([^ \n]*) ([^ \n]*)\n$`),
}

// inOrder is how kinds may stand one behind the other.
var inOrder = regexp.MustCompile(`^c*i*s*g*!?$`)

// wanted tells P1701's Parse another way: each line has the letter of its kind,
// and all letters together an order.
func wanted(s string) (man.Manifest, api.Fault) {
	m, order := man.Manifest{}, ""
	lines := strings.SplitAfter(s, "\n")
	if lines[len(lines)-1] == "" {
		lines = lines[:len(lines)-1]
	}
	for i, l := range lines {
		letter, w := "none", []string(nil)
		for k, f := range forms {
			if found := f.FindStringSubmatch(l); found != nil {
				letter, w = k, found[1:]
			}
		}
		order += letter
		if !inOrder.MatchString(order) {
			return man.Manifest{}, api.Fault{Part: "line", At: i, Err: api.ErrForm}
		}
		n := uint32(0)
		if letter == "c" || letter == "s" {
			b, _ := new(big.Int).SetString(w[1], 10)
			if b.BitLen() > 32 {
				return man.Manifest{}, api.Fault{Part: "line", At: i, Err: api.ErrOver}
			}
			n = uint32(b.Uint64())
		}
		switch letter {
		case "c":
			m.Comps = append(m.Comps, man.Comp{Name: w[0], Stack: n})
		case "i":
			m.Imports = append(m.Imports, man.Import{Comp: w[0], From: w[1], Name: w[2]})
		case "s":
			m.Shares = append(m.Shares, man.Share{Name: w[0], Size: n})
		case "g":
			m.Grants = append(m.Grants, man.Grant{Comp: w[0], Share: w[1], Perm: map[string]uint16{"r": 1, "w": 2, "rw": 3}[w[2]]})
		case "!":
			m.Start = man.Import{From: w[0], Name: w[1]}
		}
	}
	if !strings.HasSuffix(order, "!") {
		return man.Manifest{}, api.Fault{Part: "line", At: len(lines), Err: api.ErrForm}
	}
	if f := first(wrongs(m)); f != (api.Fault{}) {
		return man.Manifest{}, f
	}
	return m, api.Fault{}
}

// lined tells P1701's Text of m another way.
func lined(m man.Manifest) string {
	var b strings.Builder
	for _, x := range m.Comps {
		fmt.Fprintf(&b, "comp %s %d\n", x.Name, x.Stack)
	}
	for _, x := range m.Imports {
		fmt.Fprintf(&b, "import %s %s %s\n", x.Comp, x.From, x.Name)
	}
	for _, x := range m.Shares {
		fmt.Fprintf(&b, "share %s %d\n", x.Name, x.Size)
	}
	for _, x := range m.Grants {
		fmt.Fprintf(&b, "grant %s %s %s\n", x.Comp, x.Share, []string{"", "r", "w", "rw"}[x.Perm])
	}
	fmt.Fprintf(&b, "start %s %s\n", m.Start.From, m.Start.Name)
	return b.String()
}

// sayable tells whether m is what its lines say, be it right or wrong.
func sayable(m man.Manifest) bool {
	for _, x := range m.Grants {
		if x.Perm < 1 || x.Perm > 3 {
			return false
		}
	}
	return m.Start.Comp == "" && !strings.ContainsAny(strings.Join(texts(m), ""), " \n")
}

// back holds Text of m against the promise, and Parse of it: what is wrong with
// m, Parse tells as Check does.
func back(t *testing.T, m man.Manifest) {
	t.Helper()
	for range 2 {
		s := man.Text(m)
		if s != lined(m) {
			t.Fatalf("P1701: Text of %s: %s", told(m), short(s))
		}
		x, err := man.Parse(s)
		if f := first(wrongs(m)); !same(err, f) || err == nil && !alike(x, m) || err != nil && !alike(x, man.Manifest{}) {
			t.Fatalf("P1701: Parse(%s): %s, %v; want %v", short(s), told(x), err, &f)
		}
	}
}

// parses holds Parse(s) against the promise, twice, and answers the Fault that
// there is. What it takes, Text answers again.
func parses(t *testing.T, s string) api.Fault {
	t.Helper()
	want, f := wanted(s)
	for range 2 {
		m, err := man.Parse(s)
		if !same(err, f) || !alike(m, want) {
			t.Fatalf("P1701: Parse(%s): %s, %v; want %s, %v", short(s), told(m), err, told(want), &f)
		}
		if err == nil && (man.Text(m) != s || man.Check(m) != nil) {
			t.Fatalf("P1701: Text of what Parse answers: %s; want %s", short(man.Text(m)), short(s))
		}
	}
	return f
}

func TestText(t *testing.T) { // P1701
	for s, m := range map[string]man.Manifest{
		strings.Join(written, ""): some(),
		"comp a 16\nstart a a\n":  {Comps: []man.Comp{{Name: "a", Stack: 16}}, Start: man.Import{From: "a", Name: "a"}},
		"comp comp 4096\nimport comp start import\nshare share 10\ngrant grant share w\nstart start start\n": {
			Comps: []man.Comp{{Name: "comp", Stack: 4096}}, Imports: []man.Import{{Comp: "comp", From: "start", Name: "import"}},
			Shares: []man.Share{{Name: "share", Size: 10}}, Grants: []man.Grant{{Comp: "grant", Share: "share", Perm: 2}}, Start: man.Import{From: "start", Name: "start"}},
		"start  \n": {},
		"comp  0\nimport   \nshare  4294967295\nstart A b\n": {
			Comps: make([]man.Comp, 1), Imports: make([]man.Import, 1), Shares: []man.Share{{Size: 1<<32 - 1}}, Start: man.Import{From: "A", Name: "b"}},
	} {
		for range 2 {
			if is := man.Text(m); is != s {
				t.Errorf("P1701: Text(%s): %s; want %s", told(m), short(is), short(s))
			}
		}
		if lined(m) != s {
			t.Errorf("P1701, told another way: %s", short(s))
		}
	}
	if m, err := man.Parse(strings.Join(written, "")); err != nil || !alike(m, some()) {
		t.Errorf("P1701: Parse: %s, %v", told(m), err)
	}
}

// with answers written, the line of that number another one.
func with(line int, s string) string {
	l := slices.Clone(written)
	l[line] = s
	return strings.Join(l, "")
}

func TestNoText(t *testing.T) { // P1701, P4, P6
	all := strings.Join(written, "")
	for s, want := range map[string]string{
		"": "line 0: form", "\n": "line 0: form", "\n\n": "line 0: form", " ": "line 0: form", "x": "line 0: form", "start": "line 0: form", "start\n": "line 0: form",
		"start a f\n": "comps 0: short", "start  \n": "comps 0: short", "start \n": "line 0: form", "start a f": "line 0: form", "comp a 16\n": "line 1: form", "comp a 16": "line 0: form",
		"comp a 16\nstart a f": "line 1: form", "comp a 16\n\nstart a f\n": "line 1: form", "\ncomp a 16\nstart a f\n": "line 0: form",
		"comp a 16\nstart a f\n\n": "line 2: form", "comp a 16\nstart a f\n ": "line 2: form", "comp a 16\nstart a f\nstart a f\n": "line 2: form", "comp a 16\nstart a f\ncomp b 16\n": "line 2: form",
		"comp a 16\r\nstart a f\r\n": "line 0: form", "comp a 16\nstart a f\r\n": "start 0: name", "comp a 16\x00\nstart a f\n": "line 0: form", "comp a 16\nstart a f \n": "line 1: form",
		"comp a 16;start a f\n": "line 0: form", "\xef\xbb\xbf" + all: "line 0: form", all + "\x00": "line 16: form", all + all: "line 16: form", all[1:]: "line 0: form", all[:len(all)-1]: "line 15: form",

		with(0, "comp a 16 16\n"): "line 0: form", with(0, "comp a\n"): "line 0: form", with(0, "comp a \n"): "line 0: form", with(0, "comp 16\n"): "line 0: form", with(0, "comp\n"): "line 0: form", with(0, "comp a\t16\n"): "line 0: form",
		with(0, "comp  a 16\n"): "line 0: form", with(0, "comp a  16\n"): "line 0: form", with(0, "comp a 16 \n"): "line 0: form", with(0, " comp a 16\n"): "line 0: form", with(0, "\tcomp a 16\n"): "line 0: form", with(0, "comp\ta 16\n"): "line 0: form",
		with(0, "Comp a 16\n"): "line 0: form", with(0, "COMP a 16\n"): "line 0: form", with(0, "comps a 16\n"): "line 0: form", with(0, "com a 16\n"): "line 0: form", with(0, "compa 16\n"): "line 0: form", with(0, "16 a comp\n"): "line 0: form",
		with(1, "comp b x\n"): "line 1: form", with(2, "comp A 4294967296\n"): "line 2: over", with(2, "comp A 4294967295\n"): "comp 2: align", with(2, "comp A 0\n"): "comp 2: over", with(2, "comp A 00\n"): "line 2: form", with(2, "comp A 048\n"): "line 2: form",
		with(0, "comp b 16\n"): "import 0: name", with(0, "comp 9 16\n"): "comp 0: name", with(0, "comp  16\n"): "comp 0: name", with(0, "comp a.b 16\n"): "comp 0: name", with(0, "comp a\tb 16\n"): "comp 0: name", with(0, "comp \xff 16\n"): "comp 0: name", with(0, "comp A 16\n"): "comp 2: twice",

		with(3, "import a A\n"): "line 3: form", with(3, "import a A f f\n"): "line 3: form", with(3, "import a A f \n"): "line 3: form", with(3, "import  A f\n"): "import 0: name", with(3, "import a A \n"): "import 0: name", with(3, "import a A 5\n"): "import 0: name",
		with(3, "import a a f\n"): "import 0: kind", with(4, "import a A f\n"): "import 1: twice", with(4, "export a A f\n"): "line 4: form", with(3, "comp b 16\n"): "", with(4, "comp b 16\n"): "line 4: form",
		with(8, "share s\n"): "line 8: form", with(8, "share s s 16\n"): "line 8: form", with(8, "share s 16 16\n"): "line 8: form", with(8, "share s -16\n"): "line 8: form", with(8, "share s 4294967312\n"): "line 8: over", with(8, "share s 4112\n"): "share 0: over", with(8, "share  16\n"): "share 0: name", with(9, "share s 16\n"): "share 1: twice", with(8, "share t 16\n"): "grant 0: name",
		with(11, "grant a s\n"): "line 11: form", with(11, "grant a s \n"): "line 11: form", with(11, "grant a s x\n"): "line 11: form", with(11, "grant a s 1\n"): "line 11: form", with(11, "grant a s R\n"): "line 11: form", with(11, "grant a s wr\n"): "line 11: form", with(11, "grant a s rr\n"): "line 11: form", with(11, "grant a s rwx\n"): "line 11: form", with(11, "grant a s r w\n"): "line 11: form", with(11, "grant a s 0\n"): "line 11: form",
		with(11, "grant a s rw\n"): "", with(11, "grant a s w\n"): "", with(11, "grant A s w\n"): "grant 2: twice", with(11, "grant  s w\n"): "grant 0: name", with(11, "grant a  w\n"): "grant 0: name", with(11, "grant a A w\n"): "grant 0: name",
		with(15, "start A\n"): "line 15: form", with(15, "start A main x\n"): "line 15: form", with(15, "start  main\n"): "start 0: name", with(15, "start A \n"): "start 0: name", with(15, "start s main\n"): "start 0: name", with(15, "start a a\n"): "", with(15, "start A 0\n"): "start 0: name",
		with(15, ""): "line 15: form", with(15, "\n"): "line 15: form", with(14, "start A main\n"): "line 15: form", with(0, "start A main\n"): "line 1: form", with(15, "grant A a r\n"): "line 16: form", with(15, "comp b 16\n"): "line 15: form",
	} {
		m, err := man.Parse(s)
		if told := fmt.Sprint(err); told != want && (want != "" || err != nil) {
			t.Errorf("P1701: Parse(%s): %v; want %s", short(s), err, want)
		}
		if err != nil && !alike(m, man.Manifest{}) {
			t.Errorf("P4: Parse(%s): %s", short(s), told(m))
		}
		parses(t, s)
	}
}

// TestFirstLine: of two lines that are wrong the first one is told, ahead of all
// that Check tells.
func TestFirstLine(t *testing.T) { // P1701, P6
	bad := map[string]string{"comp a x\n": "form", "comp a 4294967296\n": "over", "\n": "form", "comp a 99999999999999999999 \n": "form", "share s 4294967296\n": "over", "grant a s\n": "form", "comp 9 15\n": ""}
	for a, of := range bad {
		for b, other := range bad {
			for _, c := range bad {
				s := a + "share x 16\n" + b + "start 5\n"
				want := ""
				switch {
				case of != "":
					want = "line 0: " + of
				case other == "form" || strings.HasPrefix(b, "comp"):
					want = "line 2: form"
				case other == "over":
					want = "line 2: over"
				}
				if f := parses(t, s); f.Error() != want {
					t.Errorf("P6: Parse(%s): %v; want %s", short(s), &f, want)
				}
				parses(t, a+b+c+"start a f\n")
				parses(t, a+b+c)
			}
		}
	}
}

// TestNumbers: what stands where a decimal must be.
func TestNumbers(t *testing.T) { // P1701
	of := map[string]string{
		"16": "", "4096": "", "32": "", "0": "over", "4112": "over", "17": "align", "1": "align", "9": "align", "4294967295": "align", "4294967280": "over", "2147483648": "over", "4294967290": "align",
	}
	for _, s := range []string{"4294967296", "4294967297", "4294967312", "4294967300", "8589934608", "9999999999", "10000000000", "18446744073709551615", "18446744073709551616", "18446744073709551632", "184467440737095516160", "340282366920938463463374607431768211456", "340282366920938463463374607431768211472", strings.Repeat("9", 1000), "1" + strings.Repeat("0", 1<<12)} {
		of[s] = "line over"
	}
	for _, s := range []string{"", "00", "01", "016", "0016", "000000000000016", "04294967296", "099999999999999999999", "00000000000000000000000000000000", "+16", "-16", "--16", "-0", "+0", "0x10", "0X10", "0b1", "0o20", "0x", "1e1", "16.0", "16.", ".16", "1_6", "1,600", "16x", "x16", "1x6", "16h", "16u", "a", "A", "ten", "NaN", "Inf", "16\t", "\t16", "16\r", "16\x00", "16\v", "16;", "9999999999x", "4294967296 ", "99999999999999999999x", "x99999999999999999999", "\u0661\u0666", "\uff11\uff16", "1\u0660", "\xb2", "16\xff", "/", ":", "1/", "1:", "1/6", "1:6", "16 16", "16  ", " 16"} {
		of[s] = "line form"
	}
	for n, want := range of {
		for part, s := range map[string]string{
			"comp 0":  "comp a " + n + "\nstart a f\n",
			"comp 1":  "comp c 16\ncomp a " + n + "\nimport a c f\nstart a f\n",
			"share 0": "comp a 16\nshare a " + n + "\nstart a f\n",
			"share 1": "comp a 16\nshare s 16\nshare a " + n + "\ngrant a s w\nstart a f\n",
		} {
			f, is := parses(t, s), ""
			line := map[string]int{"comp 0": 0, "comp 1": 1, "share 0": 1, "share 1": 2}[part]
			switch want {
			case "line form", "line over":
				is = fmt.Sprintf("line %d: %s", line, want[5:])
			case "over", "align":
				is = part + ": " + want
			}
			if f.Err == nil && is != "" || f.Err != nil && f.Error() != is {
				t.Errorf("P1701: Parse(%s): %v; want %s", short(s), &f, is)
			}
		}
	}
}

// TestAllNumbers: numbers about each power of two and of ten, and all small ones.
func TestAllNumbers(t *testing.T) { // P1701
	number := func(n *big.Int) {
		parses(t, "comp a "+n.String()+"\nstart a f\n")
		parses(t, "comp a 16\nshare a "+n.String()+"\nstart a f\n")
		parses(t, "comp a 0"+n.String()+"\nstart a f\n")
	}
	for n := range int64(5000) {
		number(big.NewInt(n))
	}
	for bit := range uint(140) {
		for _, add := range []int64{-17, -16, -1, 0, 1, 16, 17} {
			n := new(big.Int).Lsh(big.NewInt(1), bit)
			number(n.Add(n, big.NewInt(add)))
			n = new(big.Int).Exp(big.NewInt(10), big.NewInt(int64(bit)), nil)
			number(n.Add(n, big.NewInt(add)))
		}
	}
}

// TestEachByte: each byte at each place of a text, none there, and ends there.
func TestEachByte(t *testing.T) { // P1701, P1, P4
	s := "comp a 16\ncomp b 32\nimport b a f\nshare s 16\ngrant a s rw\ngrant b s r\nstart b f\n"
	seen := map[string]int{}
	for at := range len(s) + 1 {
		for c := range 256 {
			one := string([]byte{byte(c)})
			seen[parses(t, s[:at]+one+s[at:]).Part]++
			if at < len(s) {
				seen[parses(t, s[:at]+one+s[at+1:]).Part]++
			}
		}
		seen[parses(t, s[:at]).Part]++
		seen[parses(t, s[at:]).Part]++
		for end := at; end < len(s); end++ {
			seen[parses(t, s[:at]+s[end:]).Part]++
			seen[parses(t, s[:end]+s[at:]).Part]++
		}
	}
	for _, part := range []string{"", "line", "comp", "import", "share", "grant", "start"} {
		if seen[part] < 100 {
			t.Errorf("%q is told only %d times", part, seen[part])
		}
	}
}

// TestLines: written, its lines left out, twice, elsewhere, and changed places.
func TestLines(t *testing.T) { // P1701
	taken := 0
	try := func(l []string) {
		if parses(t, strings.Join(l, "")) == (api.Fault{}) {
			taken++
		}
	}
	for i := range written {
		for k := range written {
			l := slices.Clone(written)
			l[i], l[k] = l[k], l[i]
			try(l)
			try(slices.Insert(slices.Clone(written), i, written[k]))
			try(slices.Insert(slices.Delete(slices.Clone(written), k, k+1), min(i, len(written)-1), written[k]))
			if i <= k {
				try(slices.Delete(slices.Clone(written), i, k+1))
				try(written[i : k+1])
			}
		}
	}
	if taken < 50 {
		t.Errorf("only %d are taken", taken)
	}
}

// TestAllOrders: all texts of up to seven of the kinds of lines.
func TestAllOrders(t *testing.T) { // P1701, P6
	kinds := []string{"comp N 16\n", "import N M f\n", "share N 32\n", "grant N N w\n", "start N g\n", "none\n"}
	taken := 0
	var all func(s string, left, n int)
	all = func(s string, left, n int) {
		if parses(t, s) == (api.Fault{}) {
			taken++
		}
		for _, k := range kinds {
			if left > 0 {
				k = strings.NewReplacer("N", "abcdefg"[n:n+1], "M", "gabcdef"[n:n+1]).Replace(k)
				all(s+k, left-1, n+1)
				if strings.HasPrefix(k, "start") {
					all(s+"start a a\n", left-1, n+1)
				}
			}
		}
	}
	all("", 5, 0)
	for _, head := range []string{"comp a 16\n", "comp a 16\ncomp b 16\nimport a b f\n", "comp a 16\ncomp d 16\nshare d 16\n"} {
		all(head, 4, strings.Count(head, "\n"))
	}
	if taken < 20 {
		t.Errorf("only %d are taken", taken)
	}
}

// TestTextsByChance: lines of words by chance, most of them as they may be.
func TestTextsByChance(t *testing.T) { // P1701, P1, P3
	c := chance(1701)
	names := []string{"a", "b", "c", "a", "b", "c", "s", "f", "_", "", "9", "a.b", "comp", "abcdefghijklmnop", "abcdefghijklmnopq"}
	name := func() string { return names[c.below(5+c.below(len(names)-4))] }
	numbers := []string{"16", "32", "4096", "16", "0", "17", "4112", "016", "4294967296", "x"}
	number := func() string { return numbers[c.below(3+c.below(len(numbers)-2))] }
	perms := []string{"r", "w", "rw", "", "x"}
	seen := map[string]int{}
	for range 60000 {
		var s []string
		many := func(line func() string) {
			for range c.below(4) {
				s = append(s, line())
			}
		}
		s = append(s, "comp a "+number()+"\n", "comp b "+number()+"\n")
		many(func() string { return "comp " + name() + " " + number() + "\n" })
		many(func() string { return "import " + name() + " " + name() + " " + name() + "\n" })
		many(func() string { return "share " + name() + " " + number() + "\n" })
		many(func() string { return "grant " + name() + " " + name() + " " + perms[c.below(3+c.below(3))] + "\n" })
		s = append(s, "start "+name()+" "+name()+"\n")
		if c.below(8) == 0 {
			i := c.below(len(s))
			s[i] = s[i][:c.below(len(s[i]))] + []string{"", " ", "\n", "x", "0"}[c.below(5)]
		}
		f := parses(t, strings.Join(s, ""))
		seen[f.Part]++
	}
	for _, part := range []string{"", "line", "comp", "import", "share", "grant", "start"} {
		if seen[part] < 100 {
			t.Errorf("%q is told only %d times", part, seen[part])
		}
	}
}

// TestGreatTexts: texts far longer than any manifest's.
func TestGreatTexts(t *testing.T) { // P1701, P1
	const lots = 1 << 20
	end := "start a f\n"
	for s, want := range map[string]string{
		strings.Repeat("\n", lots) + end:                                   "line 0: form",
		strings.Repeat(" ", lots) + end:                                    "line 0: form",
		strings.Repeat("x", lots):                                          "line 0: form",
		strings.Repeat("comp a 16\n", lots) + end:                          "comps 1048576: long",
		strings.Repeat("comp a 16\n", lots):                                "line 1048576: form",
		strings.Repeat("comp a 16\n", lots) + "x\n":                        "line 1048576: form",
		strings.Repeat("comp a 16\n", lots) + "comp a 4294967296\n":        "line 1048576: over",
		"comp a 16\n" + strings.Repeat("import a b f\n", lots) + end:       "imports 1048576: long",
		"comp a 16\n" + strings.Repeat("share s 16\n", lots) + end:         "shares 1048576: long",
		"comp a 16\n" + strings.Repeat("grant a s r\n", lots) + end:        "grants 1048576: long",
		"comp a 16\n" + strings.Repeat(end, lots):                          "line 2: form",
		"comp a" + strings.Repeat(" 16", lots) + "\n" + end:                "line 0: form",
		"comp a 16" + strings.Repeat(" ", lots) + "\n" + end:               "line 0: form",
		"comp " + strings.Repeat("a", lots) + " 16\n" + end:                "comp 0: name",
		"comp a 16\n" + "start a " + strings.Repeat("\xff", lots) + "\n":   "start 0: name",
		"comp a 16\n" + "start" + strings.Repeat(" a", lots) + "\n":        "line 1: form",
		"comp a 16\n" + "import" + strings.Repeat(" a", lots) + "\n" + end: "line 1: form",
	} {
		if _, err := man.Parse(s); err == nil || err.Error() != want {
			t.Errorf("P1701: Parse(%s): %v; want %s", short(s), err, want)
		}
	}
}
