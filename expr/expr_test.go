package expr_test

import (
	"errors"
	"math"
	"math/big"
	"slices"
	"strconv"
	"strings"
	"testing"

	"hasp/api"
	"hasp/expr"
	"hasp/lex"
)

const most = 1 << 40

var names = []expr.Value{
	{Name: "five", N: 5}, {Name: "five", N: 6}, {Name: "low", N: -most}, {Name: "big", N: most},
	{Name: "over", N: most + 1}, {Name: "under", N: -most - 1}, {Name: "over", N: 1},
	{Name: "last", N: math.MaxInt64}, {Name: "first", N: math.MinInt64}, {Name: "", N: 77},
}

// answer is what a call of Eval is to answer: a constant and the place behind,
// or where a Fault is and of what.
type answer struct {
	n     int64
	at    int
	wrong api.Errno
}

// holds holds Eval against an answer, twice.
func holds(t *testing.T, l []lex.Token, at int, n []expr.Value, want answer) {
	t.Helper()
	for range 2 {
		v, end, err := expr.Eval(l, at, n)
		if want.wrong == api.OK {
			if v != want.n || end != want.at || err != nil {
				t.Fatalf("P1301: Eval(%s, %d): %d, %d, %v; want %+v", told(l), at, v, end, err, want)
			}
			continue
		}
		var f *api.Fault
		if v != 0 || end != 0 || !errors.As(err, &f) || f != err || *f != (api.Fault{Part: "token", At: want.at, Err: want.wrong}) || !errors.Is(err, want.wrong) {
			t.Fatalf("P1301: Eval(%s, %d): %d, %d, %v; want %+v", told(l), at, v, end, err, want)
		}
	}
}

// told keeps what is told of many tokens short.
func told(l []lex.Token) string {
	var b strings.Builder
	for _, t := range l[:min(len(l), 60)] {
		b.WriteString(strconv.Itoa(t.Kind) + ":" + strconv.Quote(t.Text) + ":" + strconv.FormatInt(t.N, 10) + " ")
	}
	return b.String() + "of " + strconv.Itoa(len(l))
}

func line(t *testing.T, s string) []lex.Token {
	t.Helper()
	l, err := lex.Line(s)
	if err != nil {
		t.Fatalf("Line(%s): %v", s, err)
	}
	return l
}

// The promise told another way: the tokens are read by a table of what may follow
// what, the tree is split at the last of its weakest signs, numbers are of any
// size, and of all errors that apply the one at the first place is taken.

// tree is a token with the sides it stands for.
type tree struct {
	kind  int
	text  string
	n     int64
	at    int
	sides []*tree
	bad   int // where a `)` is missing, -1 if none is
}

const missing = 99 // the kind of a side that is not there

// taken tells how many of l from at on belong to a constant, and whether it is
// whole; if it is not, the next one is what must not be there.
func taken(l []lex.Token, at int) (end int, whole bool) {
	open, side := 0, true
	for ; ; at++ {
		kind, text := 0, ""
		if at < len(l) {
			kind, text = l[at].Kind, l[at].Text
		}
		switch {
		case side && (kind == lex.Num || kind == lex.Name):
			side = false
		case side && kind == lex.Sign && text == "(":
			open++
		case side && kind == lex.Sign && (text == "-" || text == "~"):
		case side:
			return at, false
		case kind == lex.Sign && text == ")" && open > 0:
			open--
		case kind == lex.Sign && level(text) > 0:
			side = true
		default:
			return at, open == 0
		}
	}
}

func level(sign string) int {
	for i, some := range [][]string{{"|"}, {"^"}, {"&"}, {"<<", ">>"}, {"+", "-"}, {"*"}} {
		if slices.Contains(some, sign) {
			return i + 1
		}
	}
	return 0
}

// grown makes a tree of the tokens from at to end. What is missing behind them is
// missing at end.
func grown(l []lex.Token, at, end int) *tree {
	open, weakest, place, side := 0, 7, -1, true
	for i := at; i < end; i++ {
		text := ""
		if l[i].Kind == lex.Sign {
			text = l[i].Text
		}
		switch {
		case text == "(":
			open++
			side = true
		case text == ")":
			open--
			side = false
		case side && text != "":
		case text != "":
			side = true
			if open == 0 && level(text) <= weakest {
				weakest, place = level(text), i
			}
		default:
			side = false
		}
	}
	if at >= end {
		return &tree{kind: missing, at: end, bad: -1}
	}
	if place >= 0 {
		return &tree{kind: lex.Sign, text: l[place].Text, at: place, sides: []*tree{grown(l, at, place), grown(l, place+1, end)}, bad: -1}
	}
	t := &tree{kind: l[at].Kind, text: l[at].Text, n: l[at].N, at: at, bad: -1}
	if t.kind != lex.Sign {
		return t
	}
	if t.text == "(" && open == 0 {
		t.sides = []*tree{grown(l, at+1, end-1)}
	} else {
		t.sides = []*tree{grown(l, at+1, end)}
	}
	if t.text == "(" && open > 0 {
		t.bad = end
	}
	return t
}

// worth tells a tree's number, or all its errors.
func (t *tree) worth(depth int, n []expr.Value) (*big.Int, []answer) {
	v := new(big.Int)
	switch t.kind {
	case missing:
		return nil, []answer{{at: t.at, wrong: api.ErrForm}}
	case lex.Num:
		return held(v.SetInt64(t.n), t.at)
	case lex.Name:
		i := slices.IndexFunc(n, func(v expr.Value) bool { return v.Name == t.text })
		if i < 0 {
			return nil, []answer{{at: t.at, wrong: api.ErrName}}
		}
		return held(v.SetInt64(n[i].N), t.at)
	}
	var wrong []answer
	if len(t.sides) == 1 {
		if depth > 16 {
			wrong = append(wrong, answer{at: t.at, wrong: api.ErrLong})
		}
		depth++
	}
	var of []*big.Int
	for _, side := range t.sides {
		v, some := side.worth(depth, n)
		of, wrong = append(of, v), append(wrong, some...)
	}
	if t.bad >= 0 {
		wrong = append(wrong, answer{at: t.bad, wrong: api.ErrForm})
	}
	if len(wrong) > 0 {
		return nil, wrong
	}
	if t.text == "(" {
		return of[0], nil
	}
	if len(of) == 1 {
		of = append(of, nil)
	}
	return made(t.text, of[0], of[1], t.at)
}

// made tells what a sign makes of its sides; b is nil of a sign ahead.
func made(sign string, a, b *big.Int, at int) (*big.Int, []answer) {
	v := new(big.Int)
	switch sign {
	case "|":
		v.Or(a, b)
	case "^":
		v.Xor(a, b)
	case "&":
		v.And(a, b)
	case "+":
		v.Add(a, b)
	case "*":
		v.Mul(a, b)
	case "~":
		v.Not(a)
	case "-":
		if b == nil {
			v.Neg(a)
		} else {
			v.Sub(a, b)
		}
	default:
		if b.Sign() < 0 || b.Cmp(big.NewInt(40)) > 0 {
			return nil, []answer{{at: at, wrong: api.ErrOver}}
		}
		if sign == "<<" {
			v.Lsh(a, uint(b.Int64()))
		} else {
			v.Rsh(a, uint(b.Int64()))
		}
	}
	return held(v, at)
}

func held(v *big.Int, at int) (*big.Int, []answer) {
	if v.CmpAbs(big.NewInt(most)) > 0 {
		return nil, []answer{{at: at, wrong: api.ErrOver}}
	}
	return v, nil
}

// wanted tells P1301 of l from at on.
func wanted(l []lex.Token, at int, n []expr.Value) answer {
	end, whole := taken(l, at)
	v, wrong := grown(l, at, end).worth(0, n)
	if len(wrong) == 0 {
		if !whole {
			panic(told(l))
		}
		return answer{n: v.Int64(), at: end}
	}
	return slices.MinFunc(wrong, func(a, b answer) int { return a.at - b.at })
}

// check holds Eval against the promise, and tells whether it is no error.
func check(t *testing.T, l []lex.Token, at int, n []expr.Value) bool {
	t.Helper()
	want := wanted(l, at, n)
	holds(t, l, at, n, want)
	return want.wrong == api.OK
}

func TestConstants(t *testing.T) { // P1301
	for s, want := range map[string]answer{
		"0":                                {0, 1, 0},
		"0x1F":                             {31, 1, 0},
		"1099511627775":                    {most - 1, 1, 0},
		"five":                             {5, 1, 0},
		"low":                              {-most, 1, 0},
		"big":                              {most, 1, 0},
		"-five":                            {-5, 2, 0},
		"-big":                             {-most, 2, 0},
		"-low":                             {most, 2, 0},
		"~five":                            {-6, 2, 0},
		"~low":                             {most - 1, 2, 0},
		"~-1":                              {0, 3, 0},
		"- - -1":                           {-1, 4, 0},
		"-~-~3":                            {5, 5, 0},
		"((five))":                         {5, 5, 0},
		"-(five)":                          {-5, 4, 0},
		"(-(~(five)))":                     {6, 9, 0},
		"1|6":                              {7, 3, 0},
		"3^6":                              {5, 3, 0},
		"3&6":                              {2, 3, 0},
		"3<<2":                             {12, 3, 0},
		"13>>2":                            {3, 3, 0},
		"13>>40":                           {0, 3, 0},
		"-13>>2":                           {-4, 4, 0},
		"low>>40":                          {-1, 3, 0},
		"big>>40":                          {1, 3, 0},
		"1<<40":                            {most, 3, 0},
		"-1<<40":                           {-most, 4, 0},
		"0<<40":                            {0, 3, 0},
		"low<<0":                           {-most, 3, 0},
		"3+6":                              {9, 3, 0},
		"3-6":                              {-3, 3, 0},
		"3*6":                              {18, 3, 0},
		"3*-6":                             {-18, 4, 0},
		"low*-1":                           {most, 4, 0},
		"-1*low":                           {most, 4, 0},
		"low*0":                            {0, 3, 0},
		"0*low":                            {0, 3, 0},
		"1048576*-1048576":                 {-most, 4, 0},
		"low+big":                          {0, 3, 0},
		"low-low":                          {0, 3, 0},
		"low|1":                            {1 - most, 3, 0},
		"low^low":                          {0, 3, 0},
		"low&big":                          {most, 3, 0},
		"low|big":                          {-most, 3, 0},
		"10-3-2":                           {5, 5, 0},
		"10-(3-2)":                         {9, 7, 0},
		"10-3+2":                           {9, 5, 0},
		"10+3-2":                           {11, 5, 0},
		"1<<2<<3":                          {32, 5, 0},
		"1<<4>>2":                          {4, 5, 0},
		"64>>4<<2":                         {16, 5, 0},
		"64>>(4>>2)":                       {32, 7, 0},
		"1|2^3":                            {1, 5, 0},
		"2^3|1":                            {1, 5, 0},
		"7^5&3":                            {6, 5, 0},
		"5&3^7":                            {6, 5, 0},
		"8|5&2":                            {8, 5, 0},
		"7&1<<1":                           {2, 5, 0},
		"1<<1&7":                           {2, 5, 0},
		"1<<1+1":                           {4, 5, 0},
		"1+1<<1":                           {4, 5, 0},
		"1+2*3":                            {7, 5, 0},
		"2*3+1":                            {7, 5, 0},
		"7-2*3":                            {1, 5, 0},
		"-2*-3":                            {6, 5, 0},
		"-2+3":                             {1, 4, 0},
		"~2&3":                             {1, 4, 0},
		"1|2^3&4<<5+6*-7":                  {0, 7, api.ErrOver},
		"1|2^3&4<<5+6*7":                   {0, 7, api.ErrOver},
		"1|2^3&4<<5+6*~~5":                 {3, 15, 0},
		"-5*4+3<<2&240^9|2":                {187, 14, 0},
		"1|2|4^4^8&8&12<<1<<1+1+2*2*2":     {3, 25, 0},
		"big-big+five*(low+big)-five":      {-5, 13, 0},
		"2*(3+4)*5":                        {70, 9, 0},
		"(1|2)&(2|4)<<(1^1)":               {2, 17, 0},
		"1048575*1048576+1048575-4+five-1": {most - 1, 11, 0},
	} {
		holds(t, line(t, s), 0, names, want)
		check(t, line(t, s), 0, names)
	}
}

func TestMuch(t *testing.T) { // P1301: as much as is one
	for s, end := range map[string]int{
		"7 8": 1, "7 five": 1, "five 7": 1, "7,8": 1, "7:": 1, "7)": 1, "7))": 1, "7(8)": 1, "(7)(8)": 3, "(7)8": 3, "(7))": 3,
		"7~8": 1, "7 ~": 1, "1+2~": 3, "7 .x": 1, "7 \"+\"": 1, "7 \"+\" 8": 1, "2*3 4*5": 3, "-7 ~8": 2, "(1+2),3+4": 5, "five(c1)": 1, "1 \"x\"+2": 1,
	} {
		l := line(t, s)
		if _, got, err := expr.Eval(l, 0, names); got != end || err != nil {
			t.Errorf("P1301: Eval(%s): %d, %v; want %d", s, got, err, end)
		}
		check(t, l, 0, names)
		if v, got, err := expr.Eval(append(line(t, "( + .x"), l...), 3, names); got != end+3 || err != nil || v != wanted(l, 0, names).n {
			t.Errorf("P1301: Eval(( + .x %s, 3): %d, %d, %v", s, v, got, err)
		}
	}
}

func TestFaults(t *testing.T) { // P1301, P4, P6
	for s, want := range map[string]answer{
		"": {0, 0, api.ErrForm}, ")": {0, 0, api.ErrForm}, "+": {0, 0, api.ErrForm}, "*1": {0, 0, api.ErrForm}, "<<1": {0, 0, api.ErrForm}, ",": {0, 0, api.ErrForm}, ":": {0, 0, api.ErrForm}, ".x": {0, 0, api.ErrForm}, "\"1\"": {0, 0, api.ErrForm}, "\"(\" 1 )": {0, 0, api.ErrForm},
		"1+": {0, 2, api.ErrForm}, "1+)": {0, 2, api.ErrForm}, "1+*2": {0, 2, api.ErrForm}, "1+,": {0, 2, api.ErrForm}, "1+.x": {0, 2, api.ErrForm}, "1*\"2\"": {0, 2, api.ErrForm}, "1|": {0, 2, api.ErrForm}, "1^": {0, 2, api.ErrForm}, "1&": {0, 2, api.ErrForm}, "1<<": {0, 2, api.ErrForm}, "1>>": {0, 2, api.ErrForm}, "1-": {0, 2, api.ErrForm}, "1*": {0, 2, api.ErrForm},
		"-": {0, 1, api.ErrForm}, "~": {0, 1, api.ErrForm}, "(": {0, 1, api.ErrForm}, "()": {0, 1, api.ErrForm}, "-)": {0, 1, api.ErrForm}, "-+1": {0, 1, api.ErrForm}, "~*": {0, 1, api.ErrForm},
		"(1": {0, 2, api.ErrForm}, "(1 2)": {0, 2, api.ErrForm}, "(1,2)": {0, 2, api.ErrForm}, "((1)": {0, 4, api.ErrForm}, "(1 \")\"": {0, 2, api.ErrForm}, "(1+2*3": {0, 6, api.ErrForm}, "(1+(2*3": {0, 7, api.ErrForm}, "((1 2": {0, 3, api.ErrForm}, "(1~2)": {0, 2, api.ErrForm}, "1+(2": {0, 4, api.ErrForm},
		"six": {0, 0, api.ErrName}, "Five": {0, 0, api.ErrName}, "fiv": {0, 0, api.ErrName}, "five.": {0, 0, api.ErrName}, "c1": {0, 0, api.ErrName}, "1+six": {0, 2, api.ErrName}, "six+": {0, 0, api.ErrName}, "(six": {0, 1, api.ErrName}, "-six": {0, 1, api.ErrName}, "six*seven": {0, 0, api.ErrName}, "0*six": {0, 2, api.ErrName}, "1+2 six": {3, 3, 0}, "six)": {0, 0, api.ErrName},
		"over": {0, 0, api.ErrOver}, "under": {0, 0, api.ErrOver}, "last": {0, 0, api.ErrOver}, "first": {0, 0, api.ErrOver}, "0*over": {0, 2, api.ErrOver}, "-over": {0, 1, api.ErrOver}, "~under": {0, 1, api.ErrOver}, "-first": {0, 1, api.ErrOver}, "last-last": {0, 0, api.ErrOver}, "over&0": {0, 0, api.ErrOver}, "(over": {0, 1, api.ErrOver}, "over+": {0, 0, api.ErrOver},
		"big+1": {0, 1, api.ErrOver}, "1+big": {0, 1, api.ErrOver}, "low-1": {0, 1, api.ErrOver}, "big-low": {0, 1, api.ErrOver}, "big+big": {0, 1, api.ErrOver}, "low+low": {0, 1, api.ErrOver}, "~big": {0, 0, api.ErrOver}, "1+~big": {0, 2, api.ErrOver}, "~(big)": {0, 0, api.ErrOver}, "-~big": {0, 1, api.ErrOver}, "(~big)": {0, 1, api.ErrOver},
		"big*2": {0, 1, api.ErrOver}, "big*-2": {0, 1, api.ErrOver}, "big*big": {0, 1, api.ErrOver}, "low*low": {0, 1, api.ErrOver}, "low*big": {0, 1, api.ErrOver}, "16777216*(1<<40)": {0, 1, api.ErrOver}, "1048577*1048576": {0, 1, api.ErrOver}, "4294967296*4294967296": {0, 1, api.ErrOver}, "549755813889*2": {0, 1, api.ErrOver},
		"1<<41": {0, 1, api.ErrOver}, "0<<41": {0, 1, api.ErrOver}, "1<<-1": {0, 1, api.ErrOver}, "1<<64": {0, 1, api.ErrOver}, "1<<big": {0, 1, api.ErrOver}, "1<<low": {0, 1, api.ErrOver}, "1>>41": {0, 1, api.ErrOver}, "1>>-1": {0, 1, api.ErrOver}, "0>>64": {0, 1, api.ErrOver}, "1>>low": {0, 1, api.ErrOver}, "2<<40": {0, 1, api.ErrOver}, "-2<<40": {0, 2, api.ErrOver}, "big<<1": {0, 1, api.ErrOver}, "big<<40": {0, 1, api.ErrOver}, "16777216<<40": {0, 1, api.ErrOver}, "1<<20<<21": {0, 3, api.ErrOver}, "big<<24": {0, 1, api.ErrOver},
		"big|1": {0, 1, api.ErrOver}, "big^1": {0, 1, api.ErrOver}, "low^big": {0, 1, api.ErrOver}, "low&-1": {-most, 4, 0}, "(low+1)^big": {0, 5, api.ErrOver},
		"big+1+six": {0, 1, api.ErrOver}, "big+1+": {0, 1, api.ErrOver}, "big+1*six": {0, 4, api.ErrName}, "big+1*": {0, 4, api.ErrForm}, "big+(1": {0, 4, api.ErrForm}, "(big+1": {0, 2, api.ErrOver}, "(big+1 six": {0, 2, api.ErrOver}, "(big+1*six": {0, 5, api.ErrName}, "six+(big+1)": {0, 0, api.ErrName}, "1<<99+six": {0, 4, api.ErrName}, "1<<99 six": {0, 1, api.ErrOver}, "1<<99|six": {0, 1, api.ErrOver}, "~big+six": {0, 0, api.ErrOver}, "~(big+": {0, 4, api.ErrForm}, "1+big*2": {0, 3, api.ErrOver}, "big+2*big": {0, 3, api.ErrOver}, "big*2+2*big": {0, 1, api.ErrOver}, "six+over": {0, 0, api.ErrName}, "over+six": {0, 0, api.ErrOver},
	} {
		l := line(t, s)
		holds(t, l, 0, names, want)
		check(t, l, 0, names)
	}
}

func TestDeep(t *testing.T) { // P1301: ErrLong
	for i := range 1 << 17 {
		s := ""
		for k := range 17 {
			s += []string{"-", "("}[i>>k&1]
		}
		if i > 64 && i < 1<<17-64 && i%97 != 0 {
			continue
		}
		closed := strings.Repeat(")", strings.Count(s, "("))
		if !check(t, line(t, s+"9"+closed), 0, names) {
			t.Errorf("P1301: 17 deep is refused: %s", s)
		}
		for _, one := range []string{"-", "~", "("} {
			for _, in := range []string{"", "9", "six", "over", ")", "-", "(", "9" + closed} {
				holds(t, line(t, s+one+in), 0, names, answer{0, 17, api.ErrLong})
				check(t, line(t, s+one+in), 0, names)
			}
		}
		holds(t, line(t, s+".x"), 0, names, answer{0, 17, api.ErrForm})
		holds(t, line(t, s+"six"), 0, names, answer{0, 17, api.ErrName})
	}
	open, shut := strings.Repeat("(", 17), strings.Repeat(")", 17)
	for s, want := range map[string]answer{
		open + "9" + shut + "+" + open + "9" + shut:               {18, 71, 0},
		open + "9-8-7" + shut:                                     {-6, 39, 0},
		open + "9" + shut + "-" + strings.Repeat("~", 17) + "9":   {19, 54, 0},
		"1+" + open + "(9":                                        {0, 19, api.ErrLong},
		"(1)+" + open + "-9":                                      {0, 21, api.ErrLong},
		"1-" + open + "9" + shut:                                  {-8, 37, 0},
		"six-" + open + "-9":                                      {0, 0, api.ErrName},
		"big+1-" + open + "-9":                                    {0, 1, api.ErrOver},
		"big+" + open + "-9":                                      {0, 19, api.ErrLong},
		"~" + open[:15] + "(9":                                    {0, 18, api.ErrForm},
		open + "9" + shut[:16] + "+-9)":                           {0, 38, 0},
		open + "9" + shut[:16] + "+(-9)" + ")":                    {0, 40, 0},
		open + "9" + shut[:1] + "+-9" + shut[1:]:                  {0, 38, 0},
		open + "9+-9" + shut:                                      {0, 19, api.ErrLong},
		open + "9+(9)" + shut:                                     {0, 19, api.ErrLong},
		strings.Repeat("(9-", 17) + "8" + strings.Repeat(")", 17): {1, 69, 0},
	} {
		holds(t, line(t, s), 0, names, want)
		check(t, line(t, s), 0, names)
	}
}

// parts are tokens of every kind that matters.
func parts(t *testing.T) []lex.Token {
	return append(line(t, "3 40 1099511627775 five six big low over ( ) | ^ & << >> + - * ~ , :"), line(t, ".x \"+\"")...)
}

func TestAllShort(t *testing.T) { // P1301: all of up to four tokens
	some := parts(t)
	good := 0
	for length := range 5 {
		all := 1
		for range length {
			all *= len(some)
		}
		l := make([]lex.Token, length)
		for i := range all {
			for k, n := 0, i; k < length; k++ {
				l[k], n = some[n%len(some)], n/len(some)
			}
			if check(t, l, 0, names) {
				good++
			}
		}
	}
	if good < 1000 {
		t.Errorf("only %d are constants", good)
	}
}

func TestAllOfFewParts(t *testing.T) { // P1301: all of seven tokens of each of these
	for _, s := range []string{"3 - ( )", "big six + *", "5 | - ~", "2 << + (", "big 1 & ^", "six - >> )", "over 7 * -"} {
		some := line(t, s)
		l := make([]lex.Token, 7)
		for i := range 1 << 14 {
			for k := range l {
				l[k] = some[i>>(2*k)&3]
			}
			check(t, l, 0, names)
		}
	}
}

// chance answers numbers that look as by chance, the same ones each time.
type chance uint64

func (c *chance) below(n int) int {
	*c = *c*6364136223846793005 + 1442695040888963407
	return int(uint64(*c) >> 33 % uint64(n))
}

// constant writes tokens that are a constant by their form.
func (c *chance) constant(t *testing.T, depth int) string {
	switch n := c.below(9); {
	case depth > 6 || n < 2:
		return []string{"0", "1", "2", "3", "7", "20", "39", "40", "255", "65536", "1048576", "1099511627775"}[c.below(12)]
	case n == 2:
		return []string{"five", "five", "low", "big", "low", "big", "five", "over", "six"}[c.below(9)]
	case n == 3:
		return "(" + c.constant(t, depth+1) + ")"
	case n == 4:
		return []string{"-", "~"}[c.below(2)] + c.constant(t, depth+1)
	}
	sign := []string{"|", "^", "&", "<<", ">>", "+", "-", "*"}[c.below(8)]
	return c.constant(t, depth+1) + sign + c.constant(t, depth+1)
}

func TestByChance(t *testing.T) { // P1301
	c := chance(13)
	some := parts(t)
	good := 0
	for range 60000 {
		l := line(t, c.constant(t, 0))
		for range c.below(3) * c.below(2) {
			l[c.below(len(l))] = some[c.below(len(some))]
		}
		at := 0
		if c.below(4) == 0 {
			at = c.below(len(l) + 1)
		}
		if check(t, l, at, names) {
			good++
		}
	}
	if good < 10000 {
		t.Errorf("only %d are constants", good)
	}
}

func TestNumbers(t *testing.T) { // P1301: each sign, all ends
	var all []int64
	for _, n := range []int64{0, 1, 2, 3, 5, 39, 40, 41, 63, 64, 255, 1 << 20, 1<<20 + 1, 1<<24 - 1, 1 << 24, 1 << 31, 1 << 32, 1 << 39, 1<<39 + 1, most - 1, most, most + 1, 1 << 62, math.MaxInt64} {
		all = append(all, n, -n)
	}
	all = append(all, math.MinInt64)
	for _, a := range all {
		for _, sign := range []string{"-", "~"} {
			check(t, line(t, sign+"a"), 0, []expr.Value{{Name: "a", N: a}})
		}
		for _, b := range all {
			n := []expr.Value{{Name: "a", N: a}, {Name: "b", N: b}, {Name: "a", N: 1}, {Name: "b", N: 1}}
			for _, sign := range []string{"|", "^", "&", "<<", ">>", "+", "-", "*"} {
				check(t, line(t, "a"+sign+"b"), 0, n)
			}
		}
		for b := int64(-2); b < 70; b++ {
			n := []expr.Value{{Name: "a", N: a}, {Name: "b", N: b}}
			check(t, line(t, "a<<b"), 0, n)
			check(t, line(t, "a>>b"), 0, n)
		}
	}
}

func TestTokens(t *testing.T) { // P1301, P1: tokens that no line has
	num, sign := func(n int64) lex.Token { return lex.Token{Kind: lex.Num, N: n} }, func(s string) lex.Token { return lex.Token{Kind: lex.Sign, Text: s} }
	for i, c := range []struct {
		l    []lex.Token
		want answer
	}{
		{[]lex.Token{num(-7)}, answer{-7, 1, 0}},
		{[]lex.Token{{Kind: lex.Num, Text: "12", N: 7, At: 99}}, answer{7, 1, 0}},
		{[]lex.Token{num(most)}, answer{most, 1, 0}},
		{[]lex.Token{num(-most)}, answer{-most, 1, 0}},
		{[]lex.Token{num(most + 1)}, answer{0, 0, api.ErrOver}},
		{[]lex.Token{num(1), sign("+"), num(-most - 1)}, answer{0, 2, api.ErrOver}},
		{[]lex.Token{sign("-"), num(math.MinInt64)}, answer{0, 1, api.ErrOver}},
		{[]lex.Token{num(math.MaxInt64), sign("*"), num(2)}, answer{0, 0, api.ErrOver}},
		{[]lex.Token{{Kind: lex.Name, Text: ""}}, answer{77, 1, 0}},
		{[]lex.Token{{Kind: lex.Name, N: 5, Text: "five", At: -3}}, answer{5, 1, 0}},
		{[]lex.Token{num(7), {}}, answer{7, 1, 0}},
		{[]lex.Token{num(7), {Text: "+"}, num(8)}, answer{7, 1, 0}},
		{[]lex.Token{num(7), {Kind: lex.Name, Text: "+"}, num(8)}, answer{7, 1, 0}},
		{[]lex.Token{num(7), {Kind: lex.Dot, Text: "+"}, num(8)}, answer{7, 1, 0}},
		{[]lex.Token{num(7), sign("")}, answer{7, 1, 0}},
		{[]lex.Token{num(7), sign("%"), num(8)}, answer{7, 1, 0}},
		{[]lex.Token{num(7), sign("++"), num(8)}, answer{7, 1, 0}},
		{[]lex.Token{{}}, answer{0, 0, api.ErrForm}},
		{[]lex.Token{{Kind: -1}}, answer{0, 0, api.ErrForm}},
		{[]lex.Token{{Kind: 6, Text: "-"}, num(7)}, answer{0, 0, api.ErrForm}},
		{[]lex.Token{{Kind: lex.Text, Text: "-"}, num(7)}, answer{0, 0, api.ErrForm}},
		{[]lex.Token{{Kind: lex.Dot, Text: "("}, num(7), sign(")")}, answer{0, 0, api.ErrForm}},
		{[]lex.Token{sign("("), num(7), {Kind: lex.Name, Text: ")"}}, answer{0, 2, api.ErrForm}},
		{[]lex.Token{sign("!"), num(7)}, answer{0, 0, api.ErrForm}},
		{[]lex.Token{sign(""), num(7)}, answer{0, 0, api.ErrForm}},
		{[]lex.Token{sign("--"), num(7)}, answer{0, 0, api.ErrForm}},
	} {
		if t.Run(strconv.Itoa(i), func(t *testing.T) { holds(t, c.l, 0, names, c.want) }); t.Failed() {
			return
		}
	}
}

func TestPlaces(t *testing.T) { // P1301: any place of a line; P1, P8
	for _, s := range []string{"", "7", "1+2*(3-five)", "a, 2+3, b", "(((1))", "-~big*six"} {
		l := line(t, s)
		for at := range len(l) + 1 {
			check(t, l, at, names)
		}
		spare := append(slices.Clone(l), line(t, "7 7 7 7")...)[:len(l)]
		for _, at := range []int{-1, -2, len(l) + 1, len(l) + 2, math.MinInt, math.MaxInt, math.MaxInt - 1} {
			for range 2 {
				if v, end, err := expr.Eval(spare, at, names); v != 0 || end != 0 || err == nil {
					t.Errorf("P9: Eval(%s, %d): %d, %d, %v", s, at, v, end, err)
				}
			}
		}
	}
}

func TestValues(t *testing.T) { // P1301: ErrName, the first of several
	l := line(t, "a+b")
	holds(t, l, 0, nil, answer{0, 0, api.ErrName})
	holds(t, l, 0, []expr.Value{}, answer{0, 0, api.ErrName})
	holds(t, l, 0, []expr.Value{{Name: "a", N: 1}}, answer{0, 2, api.ErrName})
	holds(t, l, 0, []expr.Value{{Name: "b", N: 1}}, answer{0, 0, api.ErrName})
	holds(t, l, 0, []expr.Value{{Name: "b", N: 1}, {Name: "a", N: 2}, {Name: "b", N: most + 1}, {Name: "a", N: 9}}, answer{3, 3, 0})
	holds(t, l, 0, []expr.Value{{Name: "b", N: most + 1}, {Name: "a", N: 2}, {Name: "b", N: 1}}, answer{0, 2, api.ErrOver})
	holds(t, l, 0, []expr.Value{{Name: "A", N: 1}, {Name: "a ", N: 1}, {Name: "B", N: 1}, {Name: "", N: 1}}, answer{0, 0, api.ErrName})
	holds(t, line(t, "7"), 0, []expr.Value{{Name: "7", N: most + 1}}, answer{7, 1, 0})
	many := make([]expr.Value, 70000)
	for i := range many {
		many[i] = expr.Value{Name: "n" + strconv.Itoa(i), N: int64(i)}
	}
	holds(t, line(t, "n69999-n0-n1"), 0, many, answer{69998, 5, 0})
	holds(t, line(t, "n69999-n70000"), 0, many, answer{0, 2, api.ErrName})
}

func TestNothingIsChanged(t *testing.T) { // P2
	for _, s := range []string{"1+2*(3-five) 7", "(1+six", "big+1", strings.Repeat("-", 20)} {
		room := append(line(t, s), line(t, "1 2 3 4 5")...)
		l, kept := room[:len(room)-5], slices.Clone(room)
		values := append(slices.Clone(names), expr.Value{Name: "six", N: 6})
		n, keptValues := values[:len(names)], slices.Clone(values)
		check(t, l, 0, n)
		if !slices.Equal(room, kept) || !slices.Equal(values, keptValues) {
			t.Errorf("P2: Eval(%s) has changed what it was handed", s)
		}
	}
}

func TestGreat(t *testing.T) { // P1: many tokens
	const many = 1 << 20
	holds(t, line(t, "1"+strings.Repeat("+1", many)), 0, nil, answer{many + 1, 2*many + 1, 0})
	holds(t, line(t, "1"+strings.Repeat("*-1|0", many)), 0, nil, answer{-1, 5*many + 1, 0})
	holds(t, line(t, "1"+strings.Repeat("+1", many)+"+"), 0, nil, answer{0, 2*many + 2, api.ErrForm})
	holds(t, line(t, strings.Repeat("(-1)+", many)+"-big"), 0, names, answer{0, 5*many - 1, api.ErrOver})
	for _, s := range []string{"(", "-", "~", "-("} {
		holds(t, line(t, strings.Repeat(s, many)), 0, nil, answer{0, 17, api.ErrLong})
	}
}
