package tests

import (
	"slices"
	"strconv"
	"strings"
	"sync"
	"testing"

	"loop.example/pushvalue/impl"
)

// An equationRule is a rule as the document writes it, with M, N and P for computations, V and W for values, A and C for types, and x and y for names.
type equationRule struct {
	number   int
	from, to string
	puts     []letterPut
	unused   bool // x is not free in M
	alike    bool // M and N are alike
}

// A letterPut tells of a part in which something is put for a name ahead of writing what a rule makes.
type letterPut struct{ in, by, name string }

var equationRules = []equationRule{
	{number: 1, from: "(force (thunk M))", to: "M"},
	{number: 2, from: "(thunk (force V))", to: "V"},
	{number: 3, from: "(to (return V) x N)", to: "N", puts: []letterPut{{"N", "V", "x"}}},
	{number: 4, from: "(to M x (return x))", to: "M"},
	{number: 5, from: "(to (to M x N) y P)", to: "(to M x (to N y P))"},
	{number: 6, from: "(app (lam x A M) V)", to: "M", puts: []letterPut{{"M", "V", "x"}}},
	{number: 7, from: "(lam x A (app M x))", to: "M", unused: true},
	{number: 8, from: "(if 1 M N)", to: "M"},
	{number: 8, from: "(if 0 M N)", to: "N"},
	{number: 9, from: "(if V M N)", to: "M", alike: true},
	{number: 10, from: "(split (pair V W) x y M)", to: "M", puts: []letterPut{{"M", "V", "x"}, {"M", "W", "y"}}},
	{number: 11, from: "(fst (both M N))", to: "M"},
	{number: 11, from: "(snd (both M N))", to: "N"},
	{number: 12, from: "(both (fst M) (snd N))", to: "M", alike: true},
	{number: 13, from: "(put V (put W M))", to: "(put W M)"},
	{number: 14, from: "(put V (get x M))", to: "(put V M)", puts: []letterPut{{"M", "V", "x"}}},
	{number: 15, from: "(get x (get y M))", to: "(get x M)", puts: []letterPut{{"M", "x", "y"}}},
	{number: 16, from: "(get x (put x M))", to: "(get x M)"},
	{number: 17, from: "(get x M)", to: "M", unused: true},
	{number: 18, from: "(put V (fail C))", to: "(fail C)"},
	{number: 19, from: "(try (return V) N)", to: "(return V)"},
	{number: 19, from: "(try (fail C) N)", to: "N"},
}

const lastRule = 19

// equationForms are the forms of the rules, with their letters as atoms.
var equationForms = sync.OnceValue(func() []*madeTerm {
	var forms []*madeTerm
	for _, rule := range equationRules {
		forms = append(forms, madeFrom(rule.from, standsFor{"x": "x", "y": "y", "A": "A", "C": "C"}))
	}
	return forms
})

// fit reports whether a term has a form, and tells what its letters stand for.
func (letters standsFor) fit(form, m *madeTerm) bool {
	if form.atom != "" {
		if strings.Contains("MNPVW", form.atom) {
			letters[form.atom] = m
			return true
		}
		name, isLetter := letters[form.atom].(string)
		return m.atom == form.atom && !isLetter || m.atom != "" && m.atom == name
	}
	if form.head != m.head {
		return false
	}
	for i, p := range form.parts {
		if p.kid != nil {
			if !letters.fit(p.kid, m.parts[i].kid) {
				return false
			}
			continue
		}
		letters[p.bound+p.typ] = m.parts[i].bound + m.parts[i].typ
	}
	return true
}

func (letters standsFor) term(letter string) *madeTerm { return letters[letter].(*madeTerm) }

// use returns what a rule makes of a term in which no name is bound twice or also free, or nil if it does not fit.
func (rule equationRule) use(form, m *madeTerm) *madeTerm {
	letters := standsFor{}
	if !letters.fit(form, m) {
		return nil
	}
	if rule.unused && slices.Contains(letters.term("M").uses(), letters["x"].(string)) {
		return nil
	}
	if rule.alike && letters.term("M").markedText() != letters.term("N").markedText() {
		return nil
	}
	for _, put := range rule.puts {
		by, isTerm := letters[put.by].(*madeTerm)
		if !isTerm {
			by = letters.name(put.by)
		}
		letters[put.in] = letters.term(put.in).replaced(letters[put.name].(string), by)
	}
	return madeFrom(rule.to, letters)
}

// ruled returns what the first rule makes of a term, or else of the first of its parts of which one makes something, and its number, or nil and 0.
func (m *madeTerm) ruled() (*madeTerm, int) {
	for i, rule := range equationRules {
		if made := rule.use(equationForms()[i], m); made != nil {
			return made, rule.number
		}
	}
	for i, p := range m.parts {
		if p.kid == nil {
			continue
		}
		if made, number := p.kid.ruled(); made != nil {
			parts := slices.Clone(m.parts)
			parts[i].kid = made
			return &madeTerm{head: m.head, parts: parts}, number
		}
	}
	return nil, 0
}

// unlike returns the term with marks for the names that are bound, so that no two of these are equal, and none is free.
func (m *madeTerm) unlike() *madeTerm {
	next := 0
	return m.rebound(func() string {
		next++
		return "{" + strconv.Itoa(next) + "}"
	})
}

// canonMade returns the term with canonical names, or nil if more than 900 would be needed.
func (m *madeTerm) canonMade() *madeTerm {
	marks, index, free := 0, 0, m.free()
	made := m.marked(&marks).rebound(func() string {
		for slices.Contains(free, "n"+strconv.Itoa(index)) {
			index++
		}
		index++
		return "n" + strconv.Itoa(index-1)
	})
	if index > 900 {
		return nil
	}
	return made
}

// simplified returns what a term comes to when it is simplified once, or nil if there is none, and the number of the rule, or 0.
func (m *madeTerm) simplified() (*madeTerm, int) {
	made, number := m.unlike().ruled()
	if made == nil {
		return nil, 0
	}
	if made = made.canonMade(); made == nil || !fitsLimits(made) {
		return nil, number
	}
	return made, number
}

// simplifiedUpTo returns what a term comes to when it is simplified at most so many times, and how often it was.
func (m *madeTerm) simplifiedUpTo(most int) (*madeTerm, int) {
	for times := range most {
		next, _ := m.simplified()
		if next == nil {
			return m, times
		}
		m = next
	}
	return m, most
}

// A redexForm is a form of terms that a rule may fit, with the type that they have and those of its letters. T stands for the type of the whole.
type redexForm struct {
	typ, form string
	letters   []redexLetter
}

// A redexLetter is a letter with its type, and the names that are bound there with theirs. A type "= M" makes it like M, but for bound names.
type redexLetter struct{ letter, typ, names string }

var redexForms = []redexForm{
	{"C", "(force (thunk M))", []redexLetter{{"M", "C", ""}}},
	{"C", "(to (return V) x N)", []redexLetter{{"V", "A", ""}, {"N", "C", "x A"}}},
	{"(f A)", "(to M x (return x))", []redexLetter{{"M", "(f A)", ""}}},
	{"C", "(to (to M x N) y P)", []redexLetter{{"M", "(f A)", ""}, {"N", "(f B)", "x A"}, {"P", "C", "y B"}}},
	{"C", "(app (lam x A M) V)", []redexLetter{{"M", "C", "x A"}, {"V", "A", ""}}},
	{"(> A C)", "(lam x A (app M x))", []redexLetter{{"M", "(> A C)", "x A"}}},
	{"C", "(if 1 M N)", []redexLetter{{"M", "C", ""}, {"N", "C", ""}}},
	{"C", "(if 0 M N)", []redexLetter{{"M", "C", ""}, {"N", "C", ""}}},
	{"C", "(if V M N)", []redexLetter{{"V", "b", ""}, {"M", "C", ""}, {"N", "= M", ""}}},
	{"C", "(split (pair V W) x y M)", []redexLetter{{"V", "A", ""}, {"W", "B", ""}, {"M", "C", "x A|y B"}}},
	{"C", "(fst (both M N))", []redexLetter{{"M", "C", ""}, {"N", "D", ""}}},
	{"C", "(snd (both M N))", []redexLetter{{"M", "D", ""}, {"N", "C", ""}}},
	{"(& C D)", "(both (fst M) (snd N))", []redexLetter{{"M", "(& C D)", ""}, {"N", "= M", ""}}},
	{"C", "(put V (put W M))", []redexLetter{{"V", "b", ""}, {"W", "b", ""}, {"M", "C", ""}}},
	{"C", "(put V (get x M))", []redexLetter{{"V", "b", ""}, {"M", "C", "x b"}}},
	{"C", "(get x (get y M))", []redexLetter{{"M", "C", "x b|y b"}}},
	{"C", "(get x (put x M))", []redexLetter{{"M", "C", "x b"}}},
	{"C", "(get x (put V M))", []redexLetter{{"V", "b", "x b"}, {"M", "C", "x b"}}},
	{"C", "(get x M)", []redexLetter{{"M", "C", "x b"}}},
	{"C", "(put V (fail T))", []redexLetter{{"V", "b", ""}}},
	{"(f A)", "(try (return V) N)", []redexLetter{{"V", "A", ""}, {"N", "(f A)", ""}}},
	{"(f A)", "(try (fail T) N)", []redexLetter{{"N", "(f A)", ""}}},
}

func (d typedDice) wantsRedex(depth int) bool {
	return d.redexes > 0 && depth > 0 && d.IntN(d.redexes) == 0
}

// redexOfValue returns a value of a type (u C) that rule 2 fits.
func (d typedDice) redexOfValue(e madeEnv, typ string, depth int) *madeTerm {
	return madeOf("thunk", madeOf("force", d.value(e, typ, depth-1)))
}

// redex returns a computation of a type in an environment that has one of the forms of rules.
func (d typedDice) redex(e madeEnv, typ string, depth int) *madeTerm {
	special := d.IntN(2) == 0 && typesByText()[typ].head != "f"
	for {
		form, vars := redexForms[d.IntN(len(redexForms))], typeVars{}
		if !vars.match(form.typ, typ) || special && form.typ == "C" {
			continue
		}
		if m := d.redexOf(form, vars, e, typ, depth); m != nil {
			return m
		}
	}
}

// redexOf returns a computation of a type with a form, or nil if the types that were chosen for its letters are not to be made.
func (d typedDice) redexOf(form redexForm, vars typeVars, e madeEnv, typ string, depth int) *madeTerm {
	for _, letter := range "ABCD" {
		if _, known := vars[byte(letter)]; !known && letter < 'C' {
			vars[byte(letter)] = d.valueType()
		} else if !known {
			vars[byte(letter)] = d.computationType()
		}
	}
	letters := standsFor{"T": typ, "A": vars['A'], "x": d.name(), "y": d.name()}
	if letters["x"] == letters["y"] && strings.HasPrefix(form.form, "(split") {
		return nil
	}
	for _, l := range form.letters {
		if strings.HasPrefix(l.typ, "= ") {
			letters[l.letter] = letters.term("M").crowded(d)
			if d.IntN(4) == 0 {
				letters[l.letter] = d.renamed(letters.term("M"))
			}
			continue
		}
		part := vars.fill(l.typ)
		if !d.takes(part) {
			return nil
		}
		inside := d.envOf(l.names, vars, letters, e)
		if typesByText()[part].kind == "value" {
			letters[l.letter] = d.value(inside, part, depth-1)
		} else {
			letters[l.letter] = d.computation(inside, part, depth-1)
		}
	}
	return madeFrom(form.form, letters)
}

// envOf returns the environment of a letter of a form. Where one name alone is bound, it is not to be used half of the time.
func (d typedDice) envOf(names string, vars typeVars, letters standsFor, e madeEnv) madeEnv {
	if names == "" {
		return e
	}
	if !strings.Contains(names, "|") && d.IntN(2) == 0 {
		x := letters["x"].(string)
		var others madeEnv
		for i, name := range e.names {
			if name != x {
				others = others.with(name, e.types[i])
			}
		}
		return others
	}
	for _, one := range strings.Split(names, "|") {
		letter, typ, _ := strings.Cut(one, " ")
		e = e.with(letters[letter].(string), vars.fill(typ))
	}
	return e
}

// crowded returns a term that is alike, in which few names are bound again and again, some that are free elsewhere among them.
func (m *madeTerm) crowded(d typedDice) *madeTerm {
	few := []string{d.one("x", "y", "n0"), d.one("x", "n1")}
	for _, name := range m.free() {
		if d.IntN(2) == 0 {
			few = append(few, name)
		}
	}
	return m.unlike().crowdedFrom(d, few)
}

// crowdedFrom is crowded for a term with marks for the names that it binds.
func (m *madeTerm) crowdedFrom(d typedDice, names []string) *madeTerm {
	made := &madeTerm{atom: m.atom, head: m.head, parts: slices.Clone(m.parts)}
	for i, p := range made.parts {
		if p.bound == "" {
			continue
		}
		last := &made.parts[len(made.parts)-1]
		taken := append(last.kid.uses(), made.bound()...)
		// One more name than there are taken ones is enough for one of them to be left.
		fine := slices.Clone(names)
		for n := range len(taken) + 1 {
			fine = append(fine, "z"+strconv.Itoa(n))
		}
		fine = slices.DeleteFunc(fine, func(name string) bool { return slices.Contains(taken, name) })
		name := fine[d.IntN(min(len(fine), len(names)))]
		last.kid = last.kid.replaced(p.bound, madeAtom(name))
		made.parts[i].bound = name
	}
	for i, p := range made.parts {
		if p.kid != nil {
			made.parts[i].kid = p.kid.crowdedFrom(d, names)
		}
	}
	return made
}

// namesEnv has the names of nameTerms that are free in them.
var namesEnv = meantEnv{}.with("x", "b", 1).with("y", "b", 0).with("n0", "b", 1).with("p", "(* b b)", 2).with("f", "(u (f b))", 21)

// nameTerms returns terms that a rule fits which puts something for a name, or has a part come under one, with all ways in which three names may be equal.
func nameTerms() []*madeTerm {
	forms := []string{"(to (return V) x N)", "(app (lam x b N) V)", "(split (pair V 0) x j N)", "(split (pair 1 V) i x N)", "(put V (get x N))", "(get v (get x N))", "(to (to (force f) v (put v (return v))) x N)", "(to (to (force f) j (return v)) x N)", "(get x N)", "(lam x b (app N x))"}
	bodies := []string{"(return x)", "(get i (return (pair x i)))", "(lam i b (put i (return x)))", "(to (force f) i (put v (return (pair i x))))", "(split p i j (return (pair x (pair i j))))", "(split p j i (if x (return i) (return j)))", "(force (thunk (get i (put x (return i)))))", "(get i (lam j b (put i (if x (return v) (return j)))))", "(return v)"}
	var terms []*madeTerm
	for _, form := range forms {
		for _, body := range bodies {
			for n := range 81 {
				letters := standsFor{"b": "b"}
				for i, letter := range []string{"x", "i", "j", "v"} {
					letters[letter] = []string{"x", "y", "n0"}[n/[]int{1, 3, 9, 27}[i]%3]
				}
				letters["N"], letters["V"] = madeFrom(body, letters), madeFrom("v", letters)
				m := madeFrom(form, letters)
				if !slices.ContainsFunc(m.allWithin(), func(w *madeTerm) bool { return w.head == "split" && w.bound()[0] == w.bound()[1] }) {
					terms = append(terms, m)
				}
			}
		}
	}
	return terms
}

// An equationTerm is a term in an environment, with what it comes to when it is simplified once, or nil, and the number of the rule, or 0.
type equationTerm struct {
	standing
	text   string
	once   *madeTerm
	number int
}

func newEquationTerm(m *madeTerm, e madeEnv) equationTerm {
	once, number := m.simplified()
	return equationTerm{standing{m, e}, m.text(), once, number}
}

// equationTerms returns terms with a type and without, in environments, of both sorts.
var equationTerms = sync.OnceValue(func() []equationTerm {
	var all []equationTerm
	small := madeEnv{[]string{"x", "n0"}, []string{"(u (f b))", "b"}}
	for _, m := range someTerms() {
		all = append(all, newEquationTerm(m, small))
	}
	for _, m := range nameTerms() {
		all = append(all, newEquationTerm(m, namesEnv.madeEnv))
	}
	for seed, slips := range []int{0, 0, 0, 30} {
		d := newTypedDice(uint64(20+seed), slips)
		d.redexes = 1 + seed
		for i := range 1500 {
			e := d.env(i % (impl.EnvMax + 1))
			m, _ := d.term(e, 2+i%4)
			if m = m.crowded(d); fitsLimits(m) {
				all = append(all, newEquationTerm(m, e))
			}
		}
	}
	return all
})

// equatedMeant returns terms with a meaning, in environments, in which there are many that a rule fits.
var equatedMeant = sync.OnceValue(func() []meantTerm {
	all := slices.Clone(meantTerms())
	for _, m := range nameTerms() {
		if w, ok := namesEnv.meantIn(m); ok {
			all = append(all, w)
		}
	}
	for seed := range 3 {
		d := newMeantDice(uint64(30+seed), 0)
		d.redexes = 2 + seed
		for i := range 1500 {
			e := d.meantEnv(max(0, i%14-5))
			m, _ := d.term(e.madeEnv, 2+i%4)
			if w, ok := e.meantIn(m.crowded(d)); ok && len(w.text) <= 600 {
				all = append(all, w)
			}
		}
	}
	return all
})

func TestOracleSimplifies(t *testing.T) {
	t.Parallel()
	rules, captured, typed, closed := map[int]int{}, map[int]int{}, map[int]int{}, map[int]int{}
	for _, w := range equationTerms() {
		rules[w.number]++
		if w.once == nil {
			continue
		}
		// Without names that differ, what is put may come under a name that it is not meant for.
		if wrong, _ := w.term.ruled(); wrong == nil || wrong.canon() != w.once.text() {
			captured[w.number]++
		}
		if w.standing.typ() != "" {
			typed[w.number]++
		}
		if len(w.term.uses()) == 0 {
			closed[w.number]++
		}
	}
	t.Log(len(equationTerms()), rules, captured, typed, closed, len(equatedMeant()))
	for number := range lastRule + 1 {
		if rules[number] < 60 || number > 0 && (typed[number] < 40 || closed[number] < 10) {
			t.Errorf("rule %d is used for %d terms, for %d of them with a type, for %d without free names", number, rules[number], typed[number], closed[number])
		}
	}
	for _, number := range []int{3, 5, 6, 10, 14, 15} {
		if captured[number] < 50 {
			t.Errorf("rule %d would capture a name in just %d terms", number, captured[number])
		}
	}
}
