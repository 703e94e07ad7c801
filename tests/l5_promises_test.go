package tests

import (
	"math"
	"slices"
	"strconv"
	"testing"

	"loop.example/pushvalue/impl"
)

// Each test of this file holds a promise of chapter 5 against terms whose meanings are found by the document's rules, and against invalid arguments.

// wantElement wants that a closed term means an element of a type.
func wantElement(t *testing.T, s, typ string, element int) {
	t.Helper()
	k, ok := impl.Denote(s)
	count := impl.MeaningCount(s)
	if !ok || k != element || !impl.TermKnown(s) || count != countOf(typ) || !impl.MeaningSame(s, s) {
		t.Errorf("Denote(%s) = %d, %v, want %d; TermKnown %v, MeaningCount %d, want %d, MeaningSame %v", quoted(s), k, ok, element, impl.TermKnown(s), count, countOf(typ), impl.MeaningSame(s, s))
	}
	if in, ok := impl.DenoteIn(nil, nil, nil, s); !ok || in != element {
		t.Errorf("DenoteIn(%s) = %d, %v, want %d", quoted(s), in, ok, element)
	}
}

// wantNoMeaning wants that a text is no closed term with a meaning.
func wantNoMeaning(t *testing.T, s string) {
	t.Helper()
	k, ok := impl.Denote(s)
	if ok || k != 0 || impl.TermKnown(s) || impl.MeaningCount(s) != -1 {
		t.Errorf("Denote(%s) = %d, %v; TermKnown %v, MeaningCount %d", quoted(s), k, ok, impl.TermKnown(s), impl.MeaningCount(s))
	}
	if impl.MeaningSame(s, s) || impl.MeaningSame(s, "(return 0)") || impl.MeaningSame("(return 0)", s) {
		t.Errorf("MeaningSame(%s) = true", quoted(s))
	}
	wantNoneIn(t, meantEnv{}, s)
	for state := range 2 {
		wantNoMeaningRun(t, s, state)
	}
}

// wantNoneIn wants that a text has no meaning in an environment.
func wantNoneIn(t *testing.T, e meantEnv, s string) {
	t.Helper()
	if k, ok := impl.DenoteIn(e.names, e.types, e.elements, s); ok || k != 0 {
		t.Errorf("DenoteIn(%s, %s) = %d, %v", quoted(e.text()), quoted(s), k, ok)
	}
}

func wantNoMeaningRun(t *testing.T, s string, state int) {
	t.Helper()
	if print, behind, ok := impl.MeaningRun(s, state); ok || print != "" || behind != 0 {
		t.Errorf("MeaningRun(%s, %d) = %s, %d, %v", quoted(s), state, print, behind, ok)
	}
}

// wantMeant wants what the oracle tells of a closed term: its element, or that it has no meaning. It reports whether it has one.
func wantMeant(t *testing.T, m *madeTerm) bool {
	t.Helper()
	w, ok := meantEnv{}.meantIn(m)
	if ok {
		wantElement(t, w.text, w.typ, w.element)
	} else {
		wantNoMeaning(t, m.text())
	}
	return ok
}

// notMeant returns closed terms without a meaning.
func notMeant() []string { return append(typedAlone(), untyped()...) }

// typedAlone returns closed terms with a type and no meaning.
func typedAlone() []string {
	return []string{
		// a type with too many elements
		"(lam x b (return (pair x x)))", "(lam x b (lam y b (return x)))", "(lam x (* b b) (return 0))", "(lam x (u (f b)) (force x))", "(both (return 0) (lam x b (return x)))", "(both (return (pair 0 0)) (return (pair 0 0)))", "(thunk (lam x (* b b) (return 0)))", "(fail (> (* b b) (f b)))", "(fail (f (u (> b (f b)))))",
		"(return (thunk (lam x b (return x))))", "(return (pair 0 (thunk (return 0))))", "(return (thunk (return (pair 0 0))))", "(pair (thunk (return (thunk (return 0)))) 0)",
		// a part with too many, but not the whole
		"(to (return (thunk (lam x b (return x)))) y (return 0))", "(to (return (pair 0 (thunk (return 0)))) y (return 0))", "(app (lam x (* b b) (return 0)) (pair 0 1))", "(app (lam x b (return (pair x x))) 0)", "(app (app (lam x b (lam y b (return x))) 0) 1)", "(fst (both (return 0) (lam x b (return x))))", "(snd (both (return (pair 0 0)) (return (pair 1 1))))",
		"(force (thunk (to (return (thunk (lam x b (return x)))) y (return 0))))", "(if 1 (return 0) (to (return (pair 0 (thunk (return 0)))) y (return 0)))", "(try (return 0) (app (lam x (* b b) (return 0)) (pair 0 1)))", "(return (thunk (fst (both (return 0) (lam x b (return x))))))", "(get x (app (app (lam x b (lam y b (return x))) x) x))", "(put 0 (to (fail (f (u (> b (f b))))) x (return 0)))",
		// a type in the text of a lam or a fail with too many, but not the whole
		"(to (fail (f (* b (u (f b))))) x (return 0))", "(app (fail (> (* b b) (f b))) (pair 0 0))", "(app (fail (> b (> b (f b)))) 0)", "(fst (fail (& (f b) (> b (f b)))))", "(snd (both (fail (> b (f (* b b)))) (return 0)))", "(force (thunk (app (lam x (u (f b)) (force x)) (thunk (return 0)))))", "(to (return 0) x (app (fail (> b (f (* b b)))) x))", "(split (pair 0 (thunk (fail (> b (> b (f b)))))) x y (return x))",
	}
}

// untyped returns closed terms without a type.
func untyped() []string {
	return []string{
		"(force 0)", "(app (return 0) 1)", "(if (pair 0 1) (return 0) (return 1))", "(if 0 (return 0) (return (pair 0 1)))", "(split 0 x y (return x))", "(fst (return 0))", "(put (pair 0 0) (return 0))", "(try (return 0) (return (pair 0 0)))", "(try (lam x b (return x)) (lam x b (return x)))", "(to (lam x b (return x)) y (return 0))", "(return (thunk (force 1)))", "(pair 0 (thunk (force 0)))", "(get x (force x))", "(app (lam x b (return x)) (pair 0 0))",
	}
}

func TestPromise41StepsKeepMeanings(t *testing.T) {
	t.Parallel()
	states := slices.Clone(someStates())
	for i, w := range closedMeantComputations() {
		for s, n := (madeState{w.term, nil, i % 2}), 0; n < 12; n++ {
			states = append(states, s)
			next, what := s.step()
			if what != goesOn {
				break
			}
			s = next
		}
	}
	compared, heads := 0, map[string]int{}
	for _, s := range states {
		next, ok := impl.StateStep(s.state())
		if !ok {
			continue
		}
		plug, _ := impl.StatePlug(s.state())
		behind, _ := impl.StatePlug(next)
		k, known := impl.Denote(plug)
		other, otherKnown := impl.Denote(behind)
		if !known || !otherKnown {
			continue
		}
		compared++
		heads[s.comp.head]++
		if k != other || !impl.MeaningSame(plug, behind) {
			t.Fatalf("Denote(%s) = %d, and Denote(%s) = %d", plug, k, behind, other)
		}
	}
	t.Log(compared, heads)
	if compared < 3000 || len(heads) < len(formsOfTerms)-2 {
		t.Errorf("just %d steps were compared: %v", compared, heads)
	}
}

func TestPromise42TermsWithMeanings(t *testing.T) {
	t.Parallel()
	noType, unknown := 0, 0
	for _, m := range someClosedTerms() {
		if len(m.text()) > 400 || !fitsLimits(m) {
			continue // the oracle computes all of a term, again and again
		}
		if wantMeant(t, m) {
			canon, _ := impl.TermCanon(m.text())
			if !impl.TermTyped(m.text()) || !impl.TermKnown(canon) {
				t.Fatalf("%s has a meaning, but TermTyped %v, and TermKnown(%s) %v", m.text(), impl.TermTyped(m.text()), canon, impl.TermKnown(canon))
			}
		} else if impl.TermTyped(m.text()) {
			unknown++
		} else {
			noType++
		}
	}
	if noType < 500 || unknown < 500 {
		t.Errorf("just %d terms without a type, and %d with a type alone", noType, unknown)
	}
	for _, s := range slices.Concat(notMeant(), noTerms(), []string{"x", "(return x)", "(force f)", "(thunk (return x))", "(get x (return y))", "(to (return x) x (return x))", "(lam x b (return y))"}) {
		wantNoMeaning(t, s)
	}
}

func TestPromise43Elements(t *testing.T) {
	t.Parallel()
	for _, w := range closedMeant() {
		wantElement(t, w.text, w.typ, w.element)
		canon, _ := impl.TermCanon(w.text)
		if k, ok := impl.Denote(canon); !ok || k != w.element || k >= impl.MeaningCount(w.text) {
			t.Fatalf("Denote(%s) = %d, %v, want %d below %d", canon, k, ok, w.element, impl.MeaningCount(w.text))
		}
		if w.term.sort() == "computation" {
			for _, m := range []*madeTerm{madeOf("thunk", w.term), madeOf("force", madeOf("thunk", w.term))} {
				if k, ok := impl.Denote(m.text()); ok && k != w.element || ok != impl.TermKnown(m.text()) || !ok && impl.TypeKind("(u "+w.typ+")") != "" && fitsLimits(m) {
					t.Fatalf("Denote(%s) = %d, %v, want %d", m.text(), k, ok, w.element)
				}
			}
			continue
		}
		returned := madeOf("return", w.term)
		if !wantMeant(t, returned) {
			continue
		}
		k, _ := impl.Denote(returned.text())
		for state := range 2 {
			if fine, behind, a, ok := impl.ReturnOutcome("(f "+w.typ+")", k, state); !ok || !fine || behind != state || a != w.element {
				t.Fatalf("ReturnOutcome of %s for %d = %v, %d, %d, %v, want %d", returned.text(), state, fine, behind, a, ok, w.element)
			}
		}
	}
}

// contexts returns terms with a closed computation within them.
func contexts(m *madeTerm, typ string) []*madeTerm {
	all := []*madeTerm{
		madeOf("thunk", m), madeOf("force", madeOf("thunk", m)), madeOf("to", returned("0"), ":x", m), madeOf("to", madeOf("get", ":x", madeOf("put", madeAtom("1"), returned("x"))), ":y", m), madeOf("get", ":x", m), madeOf("get", ":x", madeOf("if", madeAtom("x"), m, madeOf("fail", typ))),
		putMade(0, m), putMade(1, m), madeOf("both", m, returned("1")), madeOf("both", returned("0"), m), madeOf("snd", madeOf("both", returned("0"), m)), madeOf("app", madeOf("lam", ":x", "b", m), madeAtom("1")),
	}
	switch typesByText()[typ].head {
	case "f":
		all = append(all, madeOf("try", m, m), madeOf("try", madeOf("fail", typ), m), madeOf("try", m, madeOf("fail", typ)), madeOf("to", m, ":x", returned("x")), madeOf("to", m, ":x", madeOf("put", madeAtom("1"), returned("x"))), madeOf("to", m, ":x", madeOf("lam", ":y", "b", returned("y"))))
	case ">":
		all = append(all, madeOf("app", m, madeAtom("0")), madeOf("app", m, madeAtom("1")))
	case "&":
		all = append(all, madeOf("fst", m), madeOf("snd", m))
	}
	return all
}

func TestPromise44SameMeanings(t *testing.T) {
	t.Parallel()
	types, groups := byType(closedMeant())
	d, same, different := newMeantDice(6, 0), 0, 0
	for _, typ := range types {
		for range 6 * len(groups[typ]) {
			a, b := d.oneOf(groups[typ]), d.oneOf(groups[typ])
			want := a.element == b.element
			if impl.MeaningSame(a.text, b.text) != want || impl.MeaningSame(b.text, a.text) != want {
				t.Fatalf("MeaningSame(%s, %s) = %v and %v, but they mean %d and %d", a.text, b.text, impl.MeaningSame(a.text, b.text), impl.MeaningSame(b.text, a.text), a.element, b.element)
			}
			if !want {
				different++
				continue
			}
			if a.text == b.text || a.term.sort() == "value" {
				continue
			}
			same++
			first, second := contexts(a.term, typ), contexts(b.term, typ)
			for i := range first {
				s, o := first[i].text(), second[i].text()
				if impl.TermKnown(s) && impl.TermKnown(o) && !impl.MeaningSame(s, o) {
					t.Fatalf("MeaningSame(%s, %s) = false, but %s and %s mean the same", s, o, a.text, b.text)
				}
			}
		}
	}
	if same < 200 || different < 1000 {
		t.Errorf("just %d pairs of terms mean the same, %d do not", same, different)
	}
	for range 2000 {
		// Elements of different types are not the same, even if their numbers are.
		if a, b := d.oneOf(closedMeant()), d.oneOf(closedMeant()); a.typ != b.typ && impl.MeaningSame(a.text, b.text) {
			t.Fatalf("MeaningSame(%s, %s) = true, but their types are %s and %s", a.text, b.text, a.typ, b.typ)
		}
	}
}

func TestPromise45MeaningsOfRuns(t *testing.T) {
	t.Parallel()
	ran, fails, behind := 0, 0, 0
	for _, w := range closedMeantComputations() {
		for state := range 2 {
			if !impl.TypePlain(w.typ) {
				wantNoMeaningRun(t, w.text, state)
				continue
			}
			print, bit, ok := impl.MeaningRun(w.text, state)
			end, _, what := madeState{w.term, nil, state}.run(impl.FuelMax)
			if what != isEnd {
				t.Fatalf("%s is %s", w.text, what)
			}
			if end.comp.head == "fail" {
				end.bit = 0
				fails++
			}
			if end.bit != state {
				behind++
			}
			if !ok || print != end.print() || bit != end.bit {
				t.Fatalf("MeaningRun(%s, %d) = %s, %d, %v, want %s, %d", w.text, state, print, bit, ok, end.print(), end.bit)
			}
			if p, b, _, fine := impl.Run(w.text, state, impl.FuelMax); !fine || p != print || b != bit {
				t.Fatalf("Run(%s, %d) = %s, %d, %v, MeaningRun %s, %d", w.text, state, p, b, fine, print, bit)
			}
			ran++
		}
		for _, state := range noBits() {
			wantNoMeaningRun(t, w.text, state)
		}
	}
	t.Log(ran, fails, behind)
	if ran < 1500 || fails < 200 || behind < 200 {
		t.Errorf("just %d runs, %d of which fail and %d change the state", ran, fails, behind)
	}
	for _, w := range closedMeant() {
		if w.term.sort() == "value" {
			wantNoMeaningRun(t, w.text, 0)
			wantNoMeaningRun(t, w.text, 1)
		}
	}
}

// TestMeaningsOfLargerRuns holds what larger computations mean against what they come to, without the oracle.
func TestMeaningsOfLargerRuns(t *testing.T) {
	t.Parallel()
	d, ran := newMeantDice(7, 0), 0
	for i := range 1500 {
		typ := d.one("(f b)", "(f (* b b))", "(f (* b (* b b)))")
		m := d.computation(madeEnv{}, typ, 6+i%5)
		s := m.text()
		if !fitsLimits(m) || !impl.TermKnown(s) {
			continue
		}
		for state := range 2 {
			print, bit, ok := impl.MeaningRun(s, state)
			end, left, _, fine := impl.Run(s, state, impl.FuelMax)
			if !ok || fine && (print != end || bit != left) {
				t.Fatalf("MeaningRun(%s, %d) = %s, %d, %v, but Run %s, %d, %v", s, state, print, bit, ok, end, left, fine)
			}
			if fine {
				ran++
			}
		}
	}
	if ran < 1500 {
		t.Errorf("just %d runs", ran)
	}
}

// textOf returns the value that means an element of a plain value type.
func textOf(typ string, k int) string {
	if typ == "b" {
		return strconv.Itoa(k)
	}
	x, y := partsOf(typ, k)
	return "(pair " + textOf(kidOf(typ, 0), x) + " " + textOf(kidOf(typ, 1), y) + ")"
}

func wantNoText(t *testing.T, s string, k int) {
	t.Helper()
	if text, ok := impl.ElementText(s, k); ok || text != "" {
		t.Errorf("ElementText(%s, %d) = %s, %v", quoted(s), k, text, ok)
	}
}

func TestPromise46TextsOfElements(t *testing.T) {
	texts := 0
	for _, w := range allTypes() {
		if w.kind != "value" || !w.plain {
			wantNoText(t, w.text, 0)
			wantNoText(t, w.text, 1)
			continue
		}
		for k := range w.count {
			text, ok := impl.ElementText(w.text, k)
			if !ok || text != textOf(w.text, k) {
				t.Fatalf("ElementText(%s, %d) = %s, %v, want %s", w.text, k, text, ok, textOf(w.text, k))
			}
			texts++
			wantElement(t, text, w.text, k)
			typ, _ := impl.TermType(nil, nil, text)
			print, _, _, _ := impl.Run("(return "+text+")", 0, 0)
			if typ != w.text || print != "(return "+text+")" {
				t.Fatalf("ElementText(%s, %d) = %s of the type %s, with the print %s", w.text, k, text, typ, print)
			}
		}
		for _, k := range []int{-1, -2, -w.count, w.count, w.count + 1, math.MinInt, math.MaxInt} {
			wantNoText(t, w.text, k)
		}
	}
	if texts < 1000 {
		t.Errorf("just %d texts", texts)
	}
	for _, s := range noTypes() {
		wantNoText(t, s, 0)
	}
}

func TestPromise47CountsOfMeanings(t *testing.T) {
	for _, w := range closedMeant() {
		simplest, _ := impl.TermOf(w.typ)
		if count := impl.MeaningCount(w.text); count != countOf(w.typ) || count != impl.TypeCount(w.typ) || !impl.TermKnown(simplest) {
			t.Fatalf("MeaningCount(%s) = %d, TypeCount(%s) = %d, TermKnown(%s) %v", w.text, count, w.typ, impl.TypeCount(w.typ), simplest, impl.TermKnown(simplest))
		}
	}
	for _, w := range allTypes() {
		if simplest := w.termOf(); impl.MeaningCount(simplest) != w.count || impl.TermKnown(simplest) != (w.count != -1) {
			t.Fatalf("MeaningCount(%s) = %d, TermKnown %v, want %d", simplest, impl.MeaningCount(simplest), impl.TermKnown(simplest), w.count)
		}
	}
}

// someReturning returns closed computations of one type (f A) with meanings, so many at a time.
func someReturning(seed uint64, many int) [][]meantTerm {
	types, groups := byType(closedMeantComputations())
	d := newMeantDice(seed, 0)
	var all [][]meantTerm
	for _, typ := range types {
		if typesByText()[typ].head != "f" {
			continue
		}
		for range 2 * len(groups[typ]) {
			var some []meantTerm
			for range many {
				some = append(some, d.oneOf(groups[typ]))
			}
			all = append(all, some)
		}
	}
	return all
}

func TestPromise48TriesOfTries(t *testing.T) {
	t.Parallel()
	for _, w := range someReturning(8, 3) {
		right := madeOf("try", w[0].term, madeOf("try", w[1].term, w[2].term)).text()
		left := madeOf("try", madeOf("try", w[0].term, w[1].term), w[2].term).text()
		var want [2]answer
		for state := range want {
			for _, one := range w {
				if want[state] = answerOf(one.typ, one.element, state); want[state].fine {
					break
				}
			}
		}
		wantElement(t, right, w[0].typ, elementOf(w[0].typ, want))
		wantElement(t, left, w[0].typ, elementOf(w[0].typ, want))
		if !impl.MeaningSame(left, right) {
			t.Fatalf("MeaningSame(%s, %s) = false", left, right)
		}
	}
}

// wantOutcomes wants which outcomes a computation has for both states.
func wantOutcomes(t *testing.T, m *madeTerm, typ string, of0, of1 answer) {
	t.Helper()
	k, ok := impl.Denote(m.text())
	for state, want := range []answer{of0, of1} {
		fine, behind, a, found := impl.ReturnOutcome(typ, k, state)
		if !ok || !found || fine != want.fine || behind != want.state || a != want.element {
			t.Fatalf("%s has for %d the outcome %v, %d, %d, want %v", m.text(), state, fine, behind, a, want)
		}
	}
}

func TestPromise49ChosenByTheState(t *testing.T) {
	t.Parallel()
	for _, w := range someReturning(9, 2) {
		m := madeOf("get", ":x", madeOf("if", madeAtom("x"), w[0].term, w[1].term))
		wantOutcomes(t, m, w[0].typ, answerOf(w[1].typ, w[1].element, 0), answerOf(w[0].typ, w[0].element, 1))
	}
}

func TestPromise50PutAhead(t *testing.T) {
	t.Parallel()
	for _, w := range someReturning(10, 1) {
		for bit := range 2 {
			want := answerOf(w[0].typ, w[0].element, bit)
			wantOutcomes(t, putMade(bit, w[0].term), w[0].typ, want, want)
		}
	}
}

// wantSame wants that a term means what another one does, if the count of the type of its part is known, and returns how many do.
func wantSame(t *testing.T, m *madeTerm, other meantTerm, part string) int {
	t.Helper()
	if countOf(part) == -1 {
		wantNoMeaning(t, m.text())
		return 0
	}
	wantElement(t, m.text(), other.typ, other.element)
	if !impl.MeaningSame(m.text(), other.text) || !impl.MeaningSame(other.text, m.text()) {
		t.Errorf("MeaningSame(%s, %s) = false", m.text(), other.text)
	}
	return 1
}

func TestPromise51ChoicesAndFunctions(t *testing.T) {
	t.Parallel()
	types, groups := byType(closedMeantComputations())
	d, choices, functions := newMeantDice(11, 0), 0, 0
	for _, typ := range types {
		for range 2 * len(groups[typ]) {
			a, b := d.oneOf(groups[typ]), d.oneOf(groups[typ])
			both := madeOf("both", a.term, b.term)
			choices += wantSame(t, madeOf("fst", both), a, "(& "+typ+" "+typ+")")
			choices += wantSame(t, madeOf("snd", both), b, "(& "+typ+" "+typ+")")
			for _, bit := range []string{"0", "1"} {
				inside := madeOf("lam", ":"+d.name(), "b", a.term)
				functions += wantSame(t, madeOf("app", inside, madeAtom(bit)), a, "(> b "+typ+")")
			}
		}
	}
	if choices < 500 || functions < 500 {
		t.Errorf("just %d choices and %d functions", choices, functions)
	}
}

func TestPromise52PutTogetherFromLeftAndRight(t *testing.T) {
	t.Parallel()
	for _, w := range someReturning(12, 2) {
		left := madeOf("to", madeOf("to", w[0].term, ":x", w[1].term), ":y", returned("y"))
		right := madeOf("to", w[0].term, ":x", madeOf("to", w[1].term, ":y", returned("y")))
		if !impl.MeaningSame(left.text(), right.text()) {
			t.Fatalf("MeaningSame(%s, %s) = false", left.text(), right.text())
		}
		var want [2]answer
		for state := range want {
			if first := answerOf(w[0].typ, w[0].element, state); first.fine {
				want[state] = answerOf(w[1].typ, w[1].element, first.state)
			}
		}
		wantElement(t, left.text(), w[0].typ, elementOf(w[0].typ, want))
		wantElement(t, right.text(), w[0].typ, elementOf(w[0].typ, want))
	}
}
