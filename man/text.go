package man

import (
	"strconv"
	"strings"

	"hasp/api"
)

// numberBits is how many bits a number has at the most.
const numberBits = 32

// Text answers the lines that say m.
func Text(m Manifest) string {
	var b strings.Builder
	put := func(words ...string) { b.WriteString(strings.Join(words, " ") + "\n") }
	for _, c := range m.Comps {
		put(compKind, c.Name, decimal(c.Stack))
	}
	for _, i := range m.Imports {
		put(importKind, i.Comp, i.From, i.Name)
	}
	for _, s := range m.Shares {
		put(shareKind, s.Name, decimal(s.Size))
	}
	for _, g := range m.Grants {
		put(grantKind, g.Comp, g.Share, permWord(g.Perm))
	}
	put(startKind, m.Start.From, m.Start.Name)
	return b.String()
}

// Parse answers the manifest that the lines of s say.
func Parse(s string) (Manifest, error) {
	r := &reader{kind: compKind}
	at := 0
	for line := range strings.Lines(s) {
		if wrong := r.line(line); wrong != api.OK {
			return Manifest{}, fault("line", at, wrong)
		}
		at++
	}
	if r.kind != "" {
		return Manifest{}, fault("line", at, api.ErrForm)
	}
	if err := Check(r.m); err != nil {
		return Manifest{}, err
	}
	return r.m, nil
}

// reader puts what lines say into m. The next line is of that kind or of one
// behind it; when nothing may follow any more there is none.
type reader struct {
	m    Manifest
	kind string
}

// line reads one line. What is not of a kind falls through to the next one, as
// each kind stands behind the one ahead.
func (r *reader) line(s string) api.Errno {
	switch r.kind {
	case compKind:
		if w, ok := words(s, compKind, 2); ok {
			n, wrong := number(w[1])
			r.m.Comps = append(r.m.Comps, Comp{Name: w[0], Stack: n})
			return wrong
		}
		fallthrough
	case importKind:
		if w, ok := words(s, importKind, 3); ok {
			r.kind = importKind
			r.m.Imports = append(r.m.Imports, Import{Comp: w[0], From: w[1], Name: w[2]})
			return api.OK
		}
		fallthrough
	case shareKind:
		if w, ok := words(s, shareKind, 2); ok {
			r.kind = shareKind
			n, wrong := number(w[1])
			r.m.Shares = append(r.m.Shares, Share{Name: w[0], Size: n})
			return wrong
		}
		fallthrough
	case grantKind:
		if w, ok := words(s, grantKind, 3); ok {
			r.kind = grantKind
			p, wrong := perm(w[2])
			r.m.Grants = append(r.m.Grants, Grant{Comp: w[0], Share: w[1], Perm: p})
			return wrong
		}
		fallthrough
	case startKind:
		if w, ok := words(s, startKind, 2); ok {
			r.kind = ""
			r.m.Start = Import{From: w[0], Name: w[1]}
			return api.OK
		}
	}
	return api.ErrForm
}

// words answers the n words of a line of that kind, false if s is none. Between
// two blanks stands a word of no bytes: Check tells that it is no name.
func words(s, kind string, n int) ([]string, bool) {
	s, begun := strings.CutPrefix(s, kind+" ")
	s, ended := strings.CutSuffix(s, "\n")
	if !begun || !ended {
		return nil, false
	}
	// Pieces of the text would keep all of it.
	w := strings.SplitN(strings.Clone(s), " ", n+1)
	return w, len(w) == n
}

func decimal(n uint32) string { return strconv.FormatUint(uint64(n), 10) }

// number answers what a decimal says.
func number(s string) (uint32, api.Errno) {
	if strings.Trim(s, "0123456789") != "" || strings.HasPrefix(s, "0") && s != "0" || s == "" {
		return 0, api.ErrForm
	}
	// Nothing else can be wrong with digits alone.
	n, err := strconv.ParseUint(s, 10, numberBits)
	if err != nil {
		return 0, api.ErrOver
	}
	return uint32(n), api.OK
}

// permWord answers how a Perm is written, nothing of what no Grant may have.
func permWord(p uint16) string {
	switch p {
	case api.R:
		return "r"
	case api.W:
		return "w"
	case api.R | api.W:
		return "rw"
	}
	return ""
}

// perm answers the Perm that is so written.
func perm(s string) (uint16, api.Errno) {
	for _, p := range []uint16{api.R, api.W, api.R | api.W} {
		if permWord(p) == s {
			return p, api.OK
		}
	}
	return 0, api.ErrForm
}
