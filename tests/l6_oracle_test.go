package tests

import (
	"maps"
	"math"
	"slices"
	"strconv"
	"strings"
	"testing"
)

// standsFor tells what stands in the place of the letters of a template: a term, or the text of a name or a type.
type standsFor map[string]any

// templateReader reads a term as the document writes it, with letters in the place of parts.
type templateReader struct {
	words   []string
	letters standsFor
}

// madeFrom returns the term that a template is.
func madeFrom(template string, letters standsFor) *madeTerm {
	r := templateReader{wordsOf(template), letters}
	m := r.term()
	if len(r.words) > 0 {
		panic("more than a term: " + template)
	}
	return m
}

func (r *templateReader) word() string {
	word := r.words[0]
	r.words = r.words[1:]
	return word
}

func (r *templateReader) term() *madeTerm {
	word := r.word()
	if word != "(" {
		switch by := r.letters[word].(type) {
		case *madeTerm:
			return by
		case string:
			return madeAtom(by)
		}
		return madeAtom(word)
	}
	m := &madeTerm{head: r.word()}
	for _, form := range formsOfTerms {
		if form.head != m.head {
			continue
		}
		for _, sign := range form.signs {
			m.parts = append(m.parts, r.part(sign))
		}
	}
	if r.word() != ")" {
		panic("no term: " + m.text())
	}
	return m
}

func (r *templateReader) part(sign rune) madePart {
	switch sign {
	case 'x':
		return madePart{bound: r.letters[r.word()].(string)}
	case 'A', 'C':
		return madePart{typ: r.letters[r.word()].(string)}
	}
	return madePart{kid: r.term()}
}

// newTerm is a term that is being made: the number of its names that are taken.
type newTerm struct{ taken int }

// take returns letters that stand for new names, which are taken in their order, beside some that stand for what is known already.
func (n *newTerm) take(names string, known standsFor) standsFor {
	letters := maps.Clone(known)
	if letters == nil {
		letters = standsFor{}
	}
	for _, letter := range strings.Fields(names) {
		letters[letter] = "k" + strconv.Itoa(n.taken)
		n.taken++
	}
	return letters
}

func (letters standsFor) name(letter string) *madeTerm { return madeAtom(letters[letter].(string)) }

// defining returns the defining term of an element.
func (n *newTerm) defining(typ string, k int) *madeTerm {
	switch typesByText()[typ].head {
	case "*", "&":
		x, y := partsOf(typ, k)
		letters := standsFor{"X": n.defining(kidOf(typ, 0), x)}
		letters["Y"] = n.defining(kidOf(typ, 1), y)
		return madeFrom(map[string]string{"*": "(pair X Y)", "&": "(both X Y)"}[typesByText()[typ].head], letters)
	case "u":
		return madeFrom("(thunk M)", standsFor{"M": n.defining(kidOf(typ, 0), k)})
	case "f":
		letters := n.take("k", nil)
		letters["M"] = n.outcome(typ, k, 1)
		letters["N"] = n.outcome(typ, k, 0)
		return madeFrom("(get k (if k M N))", letters)
	case ">":
		letters := n.take("k", standsFor{"A": kidOf(typ, 0)})
		letters["M"] = n.throughElements(typ, k, letters.name("k"), 0)
		return madeFrom("(lam k A M)", letters)
	}
	return madeAtom(strconv.Itoa(k))
}

func (n *newTerm) outcome(typ string, k, state int) *madeTerm {
	o := answerOf(typ, k, state)
	if !o.fine {
		return madeFrom("(fail T)", standsFor{"T": typ})
	}
	v := standsFor{"V": n.defining(kidOf(typ, 0), o.element)}
	return madeFrom([]string{"(put 0 (return V))", "(put 1 (return V))"}[o.state], v)
}

func (n *newTerm) throughElements(typ string, k int, name *madeTerm, a int) *madeTerm {
	from, to := kidOf(typ, 0), kidOf(typ, 1)
	if a == countOf(from)-1 {
		return n.defining(to, appliedTo(typ, k, a))
	}
	letters := standsFor{"T": n.testing(name, from, a)}
	letters = n.take("j", letters)
	letters["N"] = n.defining(to, appliedTo(typ, k, a))
	letters["M"] = n.throughElements(typ, k, name, a+1)
	return madeFrom("(to T j (if j N M))", letters)
}

// testing returns the test of a value for an element of a type.
func (n *newTerm) testing(v *madeTerm, typ string, k int) *madeTerm {
	letters := standsFor{"V": v}
	switch typesByText()[typ].head {
	case "*":
		a, b := partsOf(typ, k)
		letters = n.take("x y", letters)
		letters["S"] = n.testing(letters.name("x"), kidOf(typ, 0), a)
		letters = n.take("j", letters)
		letters["T"] = n.testing(letters.name("y"), kidOf(typ, 1), b)
		return madeFrom("(split V x y (to S j (if j T (return 0))))", letters)
	case "u":
		return n.testingOf(madeFrom("(force V)", letters), kidOf(typ, 0), k)
	}
	return madeFrom([]string{"(if V (return 0) (return 1))", "(return V)"}[k], letters)
}

// testingOf returns the test of a computation for an element of a type.
func (n *newTerm) testingOf(m *madeTerm, typ string, k int) *madeTerm {
	switch typesByText()[typ].head {
	case "&":
		a, b := partsOf(typ, k)
		letters := standsFor{"S": n.testingOf(madeOf("fst", m), kidOf(typ, 0), a)}
		letters = n.take("j", letters)
		letters["T"] = n.testingOf(madeOf("snd", m), kidOf(typ, 1), b)
		return madeFrom("(to S j (if j T (return 0)))", letters)
	case ">":
		return n.testingThrough(m, typ, k, 0)
	}
	letters := n.take("g c d", nil)
	letters["S"] = n.checking(m, typ, k, 0)
	letters["T"] = n.checking(m, typ, k, 1)
	return madeFrom("(get g (put 0 (to S c (put 1 (to T d (put g (if c (return d) (return 0))))))))", letters)
}

func (n *newTerm) testingThrough(m *madeTerm, typ string, k, a int) *madeTerm {
	from, to := kidOf(typ, 0), kidOf(typ, 1)
	v := n.defining(from, a)
	this := n.testingOf(madeOf("app", m, v), to, appliedTo(typ, k, a))
	if a == countOf(from)-1 {
		return this
	}
	letters := n.take("j", standsFor{"T": this})
	letters["N"] = n.testingThrough(m, typ, k, a+1)
	return madeFrom("(to T j (if j N (return 0)))", letters)
}

// checking returns the check for a state.
func (n *newTerm) checking(m *madeTerm, typ string, k, state int) *madeTerm {
	letters, o := n.take("r", standsFor{"M": m}), answerOf(typ, k, state)
	if !o.fine {
		return madeFrom("(try (to M r (return 0)) (return 1))", letters)
	}
	letters = n.take("q h", letters)
	letters["U"] = n.testing(letters.name("r"), kidOf(typ, 0), o.element)
	letters["Q"] = madeFrom([]string{"(if h (return 0) (return 1))", "(return h)"}[o.state], letters)
	return madeFrom("(try (to M r (to U q (get h (if q Q (return 0))))) (return 0))", letters)
}

// definedMade returns the defining term of an element of a type.
func definedMade(typ string, k int) *madeTerm { return (&newTerm{}).defining(typ, k) }

// testMade returns the test of a value for an element of a type.
func testMade(v *madeTerm, typ string, k int) *madeTerm { return (&newTerm{}).testing(v, typ, k) }

// testOfMade returns the test of a computation for an element of a type.
func testOfMade(m *madeTerm, typ string, k int) *madeTerm { return (&newTerm{}).testingOf(m, typ, k) }

// someElements returns elements of a type with so many, ascending: all of them if they are not more than about 2 for each of so many steps, and otherwise the first ones, the last ones and some between.
func someElements(count, steps int) []int {
	some := []int{0, 1, count - 2, count - 1}
	for k := 0; k < count; k += 1 + count/steps {
		some = append(some, k)
	}
	slices.Sort(some)
	return slices.Compact(some)
}

// noElements returns numbers that are no elements of a type with so many.
func noElements(count int) []int {
	return []int{-1, -2, -count, count, count + 1, 2 * count, math.MinInt, math.MaxInt}
}

// neighbours returns elements of a type that differ from one in a single place: in one part, for one state, in the state behind or for one element alone.
func neighbours(typ string, k int) []int {
	var all []int
	switch typesByText()[typ].head {
	case "b":
		return []int{1 - k}
	case "u":
		return neighbours(kidOf(typ, 0), k)
	case "*", "&":
		x, y := partsOf(typ, k)
		for _, other := range neighbours(kidOf(typ, 0), x) {
			all = append(all, choiceOf(typ, other, y))
		}
		for _, other := range neighbours(kidOf(typ, 1), y) {
			all = append(all, choiceOf(typ, x, other))
		}
	case ">":
		for changed := range countOf(kidOf(typ, 0)) {
			for _, other := range neighbours(kidOf(typ, 1), appliedTo(typ, k, changed)) {
				all = append(all, functionOf(typ, func(a int) int {
					if a == changed {
						return other
					}
					return appliedTo(typ, k, a)
				}))
			}
		}
	case "f":
		for state := range 2 {
			for _, other := range answersBeside(typ, answerOf(typ, k, state)) {
				answers := [2]answer{answerOf(typ, k, 0), answerOf(typ, k, 1)}
				answers[state] = other
				all = append(all, elementOf(typ, answers))
			}
		}
	}
	return all
}

// answersBeside returns outcomes that differ from one in the state behind, in the element or as just one of both fails.
func answersBeside(typ string, o answer) []answer {
	if !o.fine {
		return []answer{{true, 0, 0}, {true, 1, 0}, {true, 1, countOf(kidOf(typ, 0)) - 1}}
	}
	all := []answer{{}, {true, 1 - o.state, o.element}}
	for _, other := range neighbours(kidOf(typ, 0), o.element) {
		all = append(all, answer{true, o.state, other})
	}
	return all
}

// told returns the element of (f b) of what returns a bit and leaves the state.
func told(bit bool) int {
	if bit {
		return 22
	}
	return 16
}

// toldPrint returns the print of the end of what returns a bit.
func toldPrint(bit bool) string {
	if bit {
		return "(return 1)"
	}
	return "(return 0)"
}

func TestOracleDefinesElements(t *testing.T) {
	t.Parallel()
	heads := map[string]int{}
	for i, w := range countedTypes("") {
		for _, k := range []int{w.count - 1, w.count / 2, i % w.count} {
			m := definedMade(w.text, k)
			if got, ok := (meantEnv{}).meantIn(m); !ok || got.typ != w.text || got.element != k || len(m.uses()) > 0 {
				t.Fatalf("%s means %d of %s, want %d of %s", m.text(), got.element, got.typ, k, w.text)
			}
			near := neighbours(w.text, k)
			if len(near) == 0 || slices.Contains(near, k) || slices.Min(near) < 0 || slices.Max(near) >= w.count {
				t.Fatalf("neighbours of %d of %s: %d", k, w.text, near)
			}
			heads[w.head]++
		}
	}
	if len(heads) != 6 {
		t.Errorf("heads of types: %v", heads)
	}
}

func TestOracleTestsElements(t *testing.T) {
	t.Parallel()
	for bit, m := range []*madeTerm{returned("0"), returned("1")} {
		if k := (meantEnv{}).means(m); k != told(bit == 1) {
			t.Errorf("%s means %d", m.text(), k)
		}
	}
	for _, typ := range []string{"b", "(* b b)", "(* (* b b) b)", "(u (f b))", "(* b (u (f b)))", "(u (f (* b b)))", "(u (> b (f b)))", "(u (& (f b) (f b)))"} {
		last := countOf(typ) - 1
		for _, tested := range []int{0, last, last / 3} {
			m, near := testMade(madeAtom("x"), typ, tested), neighbours(typ, tested)
			for _, k := range []int{tested, near[0], near[len(near)/2], near[len(near)-1]} {
				if got, ok := (meantEnv{}).with("x", typ, k).meantIn(m); !ok || got.typ != "(f b)" || got.element != told(k == tested) {
					t.Fatalf("%s, for %d of %s, means %d of %s for %d", m.text(), tested, typ, got.element, got.typ, k)
				}
			}
		}
	}
}
