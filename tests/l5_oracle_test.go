package tests

import (
	"slices"
	"strconv"
	"strings"
	"sync"
	"testing"

	"loop.example/pushvalue/impl"
)

// A meantEnv is an environment with an element of each of its types.
type meantEnv struct {
	madeEnv
	elements []int
}

func (e meantEnv) with(name, typ string, k int) meantEnv {
	return meantEnv{e.madeEnv.with(name, typ), append(slices.Clone(e.elements), k)}
}

// element returns the last element of a name.
func (e meantEnv) element(name string) int {
	for i, n := range slices.Backward(e.names) {
		if n == name {
			return e.elements[i]
		}
	}
	panic("no element of " + name)
}

func (e meantEnv) text() string {
	var texts []string
	for i, name := range e.names {
		texts = append(texts, name+" of "+e.types[i]+" as "+strconv.Itoa(e.elements[i]))
	}
	return "[" + strings.Join(texts, ", ") + "]"
}

func (e meantEnv) typ(m *madeTerm) string { return standing{m, e.madeEnv}.typ() }

// countOf returns the count of a type, or -1.
func countOf(typ string) int {
	if w := typesByText()[typ]; w.text != "" {
		return w.count
	}
	return -1
}

func kidOf(typ string, i int) string { return typesByText()[typ].kids[i].text }

// isKnown reports whether a term has a type where it stands, and all counts are known that are to be so if it has a meaning.
func (s standing) isKnown() bool {
	for _, one := range s.inOrder() {
		if countOf(one.typ()) == -1 {
			return false
		}
		for _, p := range one.term.parts {
			if p.typ != "" && countOf(p.typ) == -1 {
				return false
			}
		}
	}
	return true
}

// An answer is the outcome of a computation of (f A) for a state.
type answer struct {
	fine           bool
	state, element int
}

// answerOf returns the outcome for a state of an element of (f A).
func answerOf(typ string, k, state int) answer {
	elements := countOf(kidOf(typ, 0))
	for range state {
		k /= 2*elements + 1
	}
	outcome := k % (2*elements + 1)
	switch {
	case outcome == 0:
		return answer{}
	case outcome <= elements:
		return answer{true, 0, outcome - 1}
	}
	return answer{true, 1, outcome - 1 - elements}
}

// elementOf returns the element of (f A) with both outcomes.
func elementOf(typ string, answers [2]answer) int {
	elements, k := countOf(kidOf(typ, 0)), 0
	for state, weight := range []int{1, 2*elements + 1} {
		if a := answers[state]; a.fine {
			k += weight * (1 + a.state*elements + a.element)
		}
	}
	return k
}

// appliedTo returns the element for an element a of an element of (> A C).
func appliedTo(typ string, k, a int) int {
	for range a {
		k /= countOf(kidOf(typ, 1))
	}
	return k % countOf(kidOf(typ, 1))
}

// functionOf returns the element of (> A C) that has for each element of A what a function tells.
func functionOf(typ string, of func(a int) int) int {
	k, weight := 0, 1
	for a := range countOf(kidOf(typ, 0)) {
		k += of(a) * weight
		weight *= countOf(kidOf(typ, 1))
	}
	return k
}

// choiceOf returns an element of (& C D), or of (* A B).
func choiceOf(typ string, first, second int) int { return first*countOf(kidOf(typ, 1)) + second }

func partsOf(typ string, k int) (int, int) {
	return k / countOf(kidOf(typ, 1)), k % countOf(kidOf(typ, 1))
}

// goingOn tells what to, get and put go on with for a state: a failure, or an element for a state.
type goingOn [2]answer

// followed returns the element that to, get and put mean: of a function and a choice, with all that they go on with followed to each element or part.
func (g goingOn) followed(typ string) int {
	switch typesByText()[typ].head {
	case ">":
		return functionOf(typ, func(a int) int {
			return g.with(func(k int) int { return appliedTo(typ, k, a) }).followed(kidOf(typ, 1))
		})
	case "&":
		first := g.with(func(k int) int { x, _ := partsOf(typ, k); return x })
		second := g.with(func(k int) int { _, y := partsOf(typ, k); return y })
		return choiceOf(typ, first.followed(kidOf(typ, 0)), second.followed(kidOf(typ, 1)))
	}
	var answers [2]answer
	for state, one := range g {
		if one.fine {
			answers[state] = answerOf(typ, one.element, one.state)
		}
	}
	return elementOf(typ, answers)
}

func (g goingOn) with(change func(int) int) goingOn {
	for state := range g {
		if g[state].fine {
			g[state].element = change(g[state].element)
		}
	}
	return g
}

// means returns the element that a term means, by the rules of the document in their order. All counts are known.
func (e meantEnv) means(m *madeTerm) int {
	typ := e.typ(m)
	switch m.shownHead() {
	case "name":
		return e.element(m.atom)
	case "bit":
		return int(m.atom[0] - '0')
	case "pair", "both":
		return choiceOf(typ, e.means(m.first()), e.means(m.last()))
	case "thunk", "force":
		return e.means(m.last())
	case "return":
		k := e.means(m.last())
		return elementOf(typ, [2]answer{{true, 0, k}, {true, 1, k}})
	case "lam":
		return functionOf(typ, func(a int) int { return e.with(m.bound()[0], kidOf(typ, 0), a).means(m.last()) })
	case "app":
		return appliedTo(e.typ(m.first()), e.means(m.first()), e.means(m.last()))
	case "fst":
		first, _ := partsOf(e.typ(m.last()), e.means(m.last()))
		return first
	case "snd":
		_, second := partsOf(e.typ(m.last()), e.means(m.last()))
		return second
	case "fail":
		return 0
	}
	return e.meansMore(m, typ)
}

func (e meantEnv) meansMore(m *madeTerm, typ string) int {
	switch m.head {
	case "if":
		if e.means(m.first()) == 1 {
			return e.means(m.parts[1].kid)
		}
		return e.means(m.last())
	case "split":
		pair, names := e.typ(m.first()), m.bound()
		x, y := partsOf(pair, e.means(m.first()))
		return e.with(names[0], kidOf(pair, 0), x).with(names[1], kidOf(pair, 1), y).means(m.last())
	case "try":
		first, second := e.means(m.first()), e.means(m.last())
		var answers [2]answer
		for state := range answers {
			answers[state] = answerOf(typ, first, state)
			if !answers[state].fine {
				answers[state] = answerOf(typ, second, state)
			}
		}
		return elementOf(typ, answers)
	case "put":
		both := answer{true, e.means(m.first()), e.means(m.last())}
		return goingOn{both, both}.followed(typ)
	}
	var g goingOn
	for state := range g {
		g[state] = e.goesOn(m, state)
	}
	return g.followed(typ)
}

// goesOn returns what to and get go on with for a state.
func (e meantEnv) goesOn(m *madeTerm, state int) answer {
	x := m.bound()[0]
	if m.head == "get" {
		return answer{true, state, e.with(x, "b", state).means(m.last())}
	}
	first := e.typ(m.first())
	behind := answerOf(first, e.means(m.first()), state)
	if !behind.fine {
		return answer{}
	}
	return answer{true, behind.state, e.with(x, kidOf(first, 0), behind.element).means(m.last())}
}

// A meantTerm is a term with a meaning in an environment.
type meantTerm struct {
	term    *madeTerm
	env     meantEnv
	text    string
	typ     string
	element int
}

// meantIn returns a term with its meaning in an environment, and true if it has one.
func (e meantEnv) meantIn(m *madeTerm) (meantTerm, bool) {
	if !fitsLimits(m) || !(standing{m, e.madeEnv}).isKnown() {
		return meantTerm{}, false
	}
	return meantTerm{m, e, m.text(), e.typ(m), e.means(m)}, true
}

// newMeantDice returns a dice for terms whose types all have counts that are known.
func newMeantDice(seed uint64, slips int) typedDice {
	d := newTypedDice(seed, slips)
	d.known = true
	return d
}

// meantEnv returns an environment of so many names, some of which are equal, with elements of which many are the least or the greatest one.
func (d typedDice) meantEnv(names int) meantEnv {
	var e meantEnv
	for range names {
		typ := d.valueType()
		last := countOf(typ) - 1
		e = e.with(d.name(), typ, []int{0, last, d.IntN(last + 1), d.IntN(last + 1)}[d.IntN(4)])
	}
	return e
}

// meantTerms returns terms with a meaning: the small ones, and larger ones, in environments of any number of names.
var meantTerms = sync.OnceValue(func() []meantTerm {
	small := meantEnv{}.with("x", "(u (f b))", 23).with("n0", "b", 1)
	var all []meantTerm
	for _, m := range smallTerms() {
		if w, ok := small.meantIn(m); ok {
			all = append(all, w)
		}
	}
	d := newMeantDice(5, 0)
	for i := range 4000 {
		e := d.meantEnv(max(0, i%14-5))
		m, _ := d.term(e.madeEnv, 3+i%4)
		if w, ok := e.meantIn(m); ok {
			all = append(all, w)
		}
	}
	return all
})

// closedMeant returns the closed terms of meantTerms, without an environment.
var closedMeant = sync.OnceValue(func() []meantTerm {
	var all []meantTerm
	for _, w := range meantTerms() {
		if len(w.term.uses()) == 0 {
			w.env = meantEnv{}
			all = append(all, w)
		}
	}
	return all
})

// closedMeantComputations returns the closed computations with a meaning.
func closedMeantComputations() []meantTerm {
	return slices.DeleteFunc(slices.Clone(closedMeant()), func(w meantTerm) bool { return w.term.sort() == "value" })
}

// byType returns the texts of types and, for each of them, the terms that have it, if there are two of them at least.
func byType(all []meantTerm) ([]string, map[string][]meantTerm) {
	groups := map[string][]meantTerm{}
	for _, w := range all {
		groups[w.typ] = append(groups[w.typ], w)
	}
	var types []string
	for typ, group := range groups {
		if len(group) > 1 {
			types = append(types, typ)
		}
	}
	slices.Sort(types)
	return types, groups
}

func (d typedDice) oneOf(group []meantTerm) meantTerm { return group[d.IntN(len(group))] }

func TestOracleFindsMeanings(t *testing.T) {
	heads, types, behind := map[string]int{}, map[string]int{}, map[string]int{}
	for _, w := range meantTerms() {
		if w.element < 0 || w.element >= countOf(w.typ) {
			t.Fatalf("%s in %s means %d of %s", w.text, w.env.text(), w.element, w.typ)
		}
		types[w.typ]++
		for _, one := range (standing{w.term, w.env.madeEnv}).inOrder() {
			head := one.term.shownHead()
			heads[head]++
			if head == "to" || head == "get" || head == "put" || head == "fail" || head == "if" || head == "split" {
				behind[head+" of "+typesByText()[one.typ()].head]++
			}
		}
	}
	t.Log(len(meantTerms()), len(closedMeant()), len(closedMeantComputations()), heads, behind, types)
	if len(heads) != len(formsOfTerms)+2 || len(closedMeantComputations()) < 500 {
		t.Errorf("%d closed computations have a meaning; heads of the terms with one: %v", len(closedMeantComputations()), heads)
	}
	for _, head := range []string{"to", "get", "put", "fail", "if", "split"} {
		for _, typ := range []string{"f", ">", "&"} {
			if behind[head+" of "+typ] < 50 {
				t.Errorf("just %d terms are %s of %s", behind[head+" of "+typ], head, typ)
			}
		}
	}
	for _, typ := range []string{"(> b (f b))", "(& (f b) (f (* b b)))", "(u (> b (f b)))", "(* b (u (f b)))", "(f (u (f b)))"} {
		if types[typ] < 20 {
			t.Errorf("just %d terms have the type %s", types[typ], typ)
		}
	}
	plain := 0
	for _, w := range closedMeantComputations() {
		if impl.TypePlain(w.typ) {
			plain++
		}
	}
	if plain < 300 {
		t.Errorf("just %d closed computations of plain types", plain)
	}
}
