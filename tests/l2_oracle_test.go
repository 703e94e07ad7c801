package tests

import (
	"math/rand/v2"
	"regexp"
	"slices"
	"strconv"
	"strings"
	"testing"
)

// A madeTerm is a term that was put together from its parts, with what the document says of it found from these and not by reading a text.
type madeTerm struct {
	atom  string // of a name or a bit
	head  string // of a term with parts
	parts []madePart
}

// A madePart is a term, a name that is bound or a type.
type madePart struct {
	kid   *madeTerm
	bound string
	typ   string
}

// formsOfTerms tells the parts of each term with parts: V and M for terms, x for a bound name, A and C for types.
var formsOfTerms = []struct{ head, signs string }{
	{"pair", "VV"}, {"thunk", "M"}, {"return", "V"}, {"to", "MxM"}, {"force", "V"}, {"lam", "xAM"}, {"app", "MV"}, {"if", "VMM"},
	{"split", "VxxM"}, {"both", "MM"}, {"fst", "M"}, {"snd", "M"}, {"get", "xM"}, {"put", "VM"}, {"fail", "C"}, {"try", "MM"},
}

func madeAtom(atom string) *madeTerm { return &madeTerm{atom: atom} }

func (m *madeTerm) text() string {
	if m.atom != "" {
		return m.atom
	}
	texts := []string{m.head}
	for _, p := range m.parts {
		if p.kid != nil {
			texts = append(texts, p.kid.text())
		} else {
			texts = append(texts, p.bound+p.typ)
		}
	}
	return "(" + strings.Join(texts, " ") + ")"
}

func (m *madeTerm) sort() string {
	if m.atom != "" || m.head == "pair" || m.head == "thunk" {
		return "value"
	}
	return "computation"
}

func (m *madeTerm) shownHead() string {
	switch m.atom {
	case "":
		return m.head
	case "0", "1":
		return "bit"
	}
	return "name"
}

func (m *madeTerm) atoms() int {
	n := 1
	for _, p := range m.parts {
		n += p.atoms()
	}
	return n
}

func (p madePart) atoms() int {
	if p.kid != nil {
		return p.kid.atoms()
	}
	return len(strings.Fields(p.bound + p.typ))
}

func (m *madeTerm) kids() []string {
	var texts []string
	for _, p := range m.parts {
		if p.kid != nil {
			texts = append(texts, p.kid.text())
		}
	}
	return texts
}

// uses returns the free names in order, as often as they stand free.
func (m *madeTerm) uses() []string {
	if m.shownHead() == "name" {
		return []string{m.atom}
	}
	var names, bound []string
	for i, p := range m.parts {
		if p.bound != "" {
			bound = append(bound, p.bound)
		}
		if p.kid == nil {
			continue
		}
		for _, name := range p.kid.uses() {
			if i < len(m.parts)-1 || !slices.Contains(bound, name) {
				names = append(names, name)
			}
		}
	}
	return names
}

func (m *madeTerm) free() []string {
	var names []string
	for _, name := range m.uses() {
		if !slices.Contains(names, name) {
			names = append(names, name)
		}
	}
	return names
}

// replaced returns the term with another one for each free occurrence of a name.
func (m *madeTerm) replaced(name string, by *madeTerm) *madeTerm {
	if m.atom == name {
		return by
	}
	made, bound := &madeTerm{atom: m.atom, head: m.head}, false
	for i, p := range m.parts {
		bound = bound || p.bound == name
		if p.kid != nil && !(bound && i == len(m.parts)-1) {
			p.kid = p.kid.replaced(name, by)
		}
		made.parts = append(made.parts, p)
	}
	return made
}

// rebound returns the term with other names for those that are bound, which are given out in the order of TermCanon. None of these is bound in the term.
func (m *madeTerm) rebound(give func() string) *madeTerm {
	made := &madeTerm{atom: m.atom, head: m.head, parts: slices.Clone(m.parts)}
	for i, p := range made.parts {
		if p.bound == "" {
			continue
		}
		name := give()
		last := &made.parts[len(made.parts)-1]
		last.kid = last.kid.replaced(p.bound, madeAtom(name))
		made.parts[i].bound = name
	}
	for i, p := range made.parts {
		if p.kid != nil {
			made.parts[i].kid = p.kid.rebound(give)
		}
	}
	return made
}

// marked returns the term with marks that are no names, [0], [1] and so on, for the names that are bound, in the order of TermCanon.
func (m *madeTerm) marked(next *int) *madeTerm {
	return m.rebound(func() string {
		*next++
		return "[" + strconv.Itoa(*next-1) + "]"
	})
}

// markedText is equal for two terms exactly if they are alike.
func (m *madeTerm) markedText() string {
	next := 0
	return m.marked(&next).text()
}

func (m *madeTerm) canon() string {
	next, index := 0, 0
	text := m.marked(&next).text()
	free := m.free()
	for mark := range next {
		for slices.Contains(free, "n"+strconv.Itoa(index)) {
			index++
		}
		text = strings.ReplaceAll(text, "["+strconv.Itoa(mark)+"]", "n"+strconv.Itoa(index))
		index++
	}
	return text
}

// A termGrammar makes terms of some names and types.
type termGrammar struct {
	names, valueTypes, computationTypes []string
}

// just returns all terms of each sort with so many atoms, given those with fewer.
func (g termGrammar) just(n int, values, computations [][]*madeTerm) ([]*madeTerm, []*madeTerm) {
	var newValues, newComputations []*madeTerm
	for _, form := range formsOfTerms {
		made := []*madeTerm{{head: form.head}}
		for _, sign := range form.signs {
			made = extended(made, g.partsOf(sign, values, computations), n)
		}
		for _, m := range made {
			if m.atoms() != n || form.head == "split" && m.parts[1].bound == m.parts[2].bound {
				continue
			}
			if m.sort() == "value" {
				newValues = append(newValues, m)
			} else {
				newComputations = append(newComputations, m)
			}
		}
	}
	return newValues, newComputations
}

// partsOf returns all parts that a sign asks for.
func (g termGrammar) partsOf(sign rune, values, computations [][]*madeTerm) []madePart {
	var parts []madePart
	switch sign {
	case 'x':
		for _, name := range g.names {
			parts = append(parts, madePart{bound: name})
		}
	case 'A', 'C':
		types := g.valueTypes
		if sign == 'C' {
			types = g.computationTypes
		}
		for _, typ := range types {
			parts = append(parts, madePart{typ: typ})
		}
	default:
		all := values
		if sign == 'M' {
			all = computations
		}
		for _, kid := range slices.Concat(all...) {
			parts = append(parts, madePart{kid: kid})
		}
	}
	return parts
}

// extended returns each of some unfinished terms with each of some parts behind it that leaves it with at most so many atoms.
func extended(made []*madeTerm, parts []madePart, most int) []*madeTerm {
	var all []*madeTerm
	for _, m := range made {
		room := most - m.atoms()
		for _, p := range parts {
			if p.atoms() <= room {
				all = append(all, &madeTerm{head: m.head, parts: append(slices.Clone(m.parts), p)})
			}
		}
	}
	return all
}

// upTo returns all terms with at most so many atoms.
func (g termGrammar) upTo(most int) []*madeTerm {
	atoms := []*madeTerm{madeAtom("0"), madeAtom("1")}
	for _, name := range g.names {
		atoms = append(atoms, madeAtom(name))
	}
	values, computations := [][]*madeTerm{nil, atoms}, [][]*madeTerm{nil, nil}
	for n := 2; n <= most; n++ {
		v, c := g.just(n, values, computations)
		values, computations = append(values, v), append(computations, c)
	}
	return slices.Concat(slices.Concat(values...), slices.Concat(computations...))
}

// smallTerms returns all terms of few atoms with names of which one looks like a canonical one.
func smallTerms() []*madeTerm {
	return termGrammar{[]string{"n0", "x"}, []string{"b"}, []string{"(f b)"}}.upTo(6)
}

// A termDice makes terms at random, but the same ones each time.
type termDice struct{ *rand.Rand }

func newTermDice(seed uint64) termDice { return termDice{rand.New(rand.NewPCG(seed, 2))} }

func (d termDice) one(of ...string) string { return of[d.IntN(len(of))] }

func (d termDice) name() string {
	return d.one("x", "x", "y", "n0", "n1", "n2", "n00", "b", "f", "a123")
}

// term returns a term of a sort, V or M, with parts within each other at most so many times, but for the innermost ones.
func (d termDice) term(sort rune, depth int) *madeTerm {
	if sort == 'V' && (depth <= 0 || d.IntN(3) == 0) {
		return madeAtom(d.one("0", "1", d.name(), d.name(), d.name()))
	}
	for {
		form := formsOfTerms[d.IntN(len(formsOfTerms))]
		if (form.head == "pair" || form.head == "thunk") != (sort == 'V') {
			continue
		}
		if depth <= 0 && form.head != "return" && form.head != "force" && form.head != "fail" {
			continue
		}
		m := &madeTerm{head: form.head}
		for _, sign := range form.signs {
			m.parts = append(m.parts, d.part(sign, depth-1))
		}
		if form.head != "split" || m.parts[1].bound != m.parts[2].bound {
			return m
		}
	}
}

func (d termDice) part(sign rune, depth int) madePart {
	switch sign {
	case 'x':
		return madePart{bound: d.name()}
	case 'A':
		return madePart{typ: d.one("b", "(* b b)", "(u (f b))", "(u (> b (& (f b) (f (* b b)))))")}
	case 'C':
		return madePart{typ: d.one("(f b)", "(> b (f b))", "(& (f b) (f (u (f b))))")}
	}
	return madePart{kid: d.term(sign, depth)}
}

// someTerms returns small and large terms of both sorts.
func someTerms() []*madeTerm {
	terms, d := smallTerms(), newTermDice(1)
	for range 1000 {
		terms = append(terms, d.term('V', 5), d.term('M', 6))
	}
	return terms
}

// renamed returns the term with other names bound, some of them so that they bind what they did not.
func (d termDice) renamed(m *madeTerm) *madeTerm {
	made := &madeTerm{atom: m.atom, head: m.head, parts: slices.Clone(m.parts)}
	for i, p := range made.parts {
		if p.bound != "" && d.IntN(3) == 0 {
			name := d.name()
			last := &made.parts[len(made.parts)-1]
			last.kid = last.kid.replaced(p.bound, madeAtom(name))
			made.parts[i].bound = name
		}
	}
	if made.head == "split" && made.parts[1].bound == made.parts[2].bound {
		return m
	}
	for i, p := range made.parts {
		if p.kid != nil {
			made.parts[i].kid = d.renamed(p.kid)
		}
	}
	return made
}

// The forms of parts of which all parts are taken already, with one sign in the place of each: T and K for types, V and M for terms.
const (
	nameForm  = `[a-z][0-9]{0,3}`
	typeForm  = `(?:T|b)`
	valueForm = `(?:V|0|1|` + nameForm + `)`
)

var (
	otherSigns        = regexp.MustCompile(`[^a-z0-9*>& ()]`)
	valueTypeIn       = partsPattern(`\* T T|u K`)
	computationTypeIn = partsPattern(`f T|> T K|& K K`)
	valueIn           = partsPattern(`pair V V|thunk M`)
	computationIn     = partsPattern(`(?:return|force) V|to M N M|lam N T M|app M V|if V M M|(?:both|try) M M|(?:fst|snd) M|get N M|put V M|fail K`)
	splitIn           = partsPattern(`split V (N) (N) M`)
	wholeValue        = regexp.MustCompile(`^` + valueForm + `$`)
)

func partsPattern(forms string) *regexp.Regexp {
	return regexp.MustCompile(`\((?:` + strings.NewReplacer("N", nameForm, "T", typeForm, "V", valueForm).Replace(forms) + `)\)`)
}

// recognizedSort tells the sort of a text that keeps all limits of numbers, by taking its innermost parts again and again.
func recognizedSort(s string) string {
	if otherSigns.MatchString(s) {
		return ""
	}
	for before := ""; s != before; {
		before = s
		s = valueTypeIn.ReplaceAllString(s, "T")
		s = computationTypeIn.ReplaceAllString(s, "K")
		s = valueIn.ReplaceAllString(s, "V")
		s = computationIn.ReplaceAllString(s, "M")
		s = splitIn.ReplaceAllStringFunc(s, func(part string) string {
			if names := splitIn.FindStringSubmatch(part); names[1] == names[2] {
				return part
			}
			return "M"
		})
	}
	if s == "M" {
		return "computation"
	}
	if wholeValue.MatchString(s) {
		return "value"
	}
	return ""
}

func TestOracleMakesTheDocumentsTerms(t *testing.T) {
	var texts []string
	for _, m := range (termGrammar{[]string{"x"}, []string{"b"}, []string{"(f b)"}}).upTo(3) {
		texts = append(texts, m.text())
	}
	want := "0 1 x " +
		"(pair 0 0) (pair 0 1) (pair 0 x) (pair 1 0) (pair 1 1) (pair 1 x) (pair x 0) (pair x 1) (pair x x) " +
		"(thunk (return 0)) (thunk (return 1)) (thunk (return x)) (thunk (force 0)) (thunk (force 1)) (thunk (force x)) " +
		"(return 0) (return 1) (return x) (force 0) (force 1) (force x) " +
		"(fst (return 0)) (fst (return 1)) (fst (return x)) (fst (force 0)) (fst (force 1)) (fst (force x)) " +
		"(snd (return 0)) (snd (return 1)) (snd (return x)) (snd (force 0)) (snd (force 1)) (snd (force x)) (fail (f b))"
	if got := strings.Join(texts, " "); got != want {
		t.Errorf("terms of at most 3 atoms: %s, want %s", got, want)
	}
	heads := map[string]int{}
	for _, m := range someTerms() {
		heads[m.shownHead()]++
		if got := recognizedSort(m.text()); got != m.sort() {
			t.Fatalf("recognizedSort(%s) = %q", m.text(), got)
		}
	}
	if len(heads) != len(formsOfTerms)+2 {
		t.Errorf("heads of the terms: %v", heads)
	}
}
