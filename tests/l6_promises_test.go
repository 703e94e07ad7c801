package tests

import (
	"slices"
	"strings"
	"testing"

	"loop.example/pushvalue/impl"
)

// Each test of this file holds a promise of chapter 6 against terms that are made by the document's templates, against their meanings and their runs, and against invalid arguments.

// withDefined returns a term with the defining term of its element put for each of some free names, and true if it is a term.
func (w meantTerm) withDefined(names []string) (string, bool) {
	s, ok := w.text, true
	for _, name := range names {
		defined, _ := impl.Define(w.env.look(name), w.env.element(name))
		if s, ok = impl.TermPut(s, name, defined); !ok {
			return "", false
		}
	}
	return s, true
}

func TestPromise53DefiningTermsPutForNames(t *testing.T) {
	t.Parallel()
	puts, names, closed := 0, map[string]int{}, 0
	for _, w := range meantTerms() {
		free := w.term.free()
		for _, name := range free {
			s, ok := w.withDefined([]string{name})
			if !ok {
				continue
			}
			wantIn(t, w.env, s, w.element)
			puts++
			names[w.env.look(name)]++
		}
		if s, ok := w.withDefined(free); ok && len(free) > 0 {
			closed++
			wantElement(t, s, w.typ, w.element)
		}
	}
	t.Log(puts, closed, names)
	if puts < 2000 || closed < 1000 {
		t.Errorf("just %d defining terms are put for names, and %d terms are closed then", puts, closed)
	}
	for _, typ := range []string{"b", "(* b b)", "(u (f b))", "(u (> b (f b)))", "(u (& (f b) (f b)))", "(u (f (* b b)))", "(* b (u (f b)))", "(* (u (> b (f b))) b)"} {
		if names[typ] < 20 {
			t.Errorf("just %d names are of %s", names[typ], typ)
		}
	}
}

// wantDefinedAs wants the defining term of an element, which means it.
func wantDefinedAs(t *testing.T, typ string, k int) {
	t.Helper()
	want := definedMade(typ, k).text()
	s, ok := impl.Define(typ, k)
	if !ok || s != want {
		t.Fatalf("Define(%s, %d) = %s, %v, want %s", typ, k, s, ok, want)
	}
	if of, ok := impl.TermType(nil, nil, s); !ok || of != typ || !impl.TermClosed(s) {
		t.Fatalf("Define(%s, %d) = %s, which has the type %s and is closed %v", typ, k, s, of, impl.TermClosed(s))
	}
	if element, ok := impl.Denote(s); !ok || element != k {
		t.Fatalf("Define(%s, %d) = %s, which means %d, %v", typ, k, s, element, ok)
	}
}

func TestPromise54DefiningTerms(t *testing.T) {
	t.Parallel()
	for _, w := range countedTypes("") {
		steps := 20
		if w.count <= 100 || w.head != "*" && !w.plain {
			steps = 700 // all of them, or as many of functions, choices and what is suspended
		}
		for _, k := range someElements(w.count, steps) {
			wantDefinedAs(t, w.text, k)
		}
	}
}

// TestRunsOfDefiningTerms holds what defining terms come to against the outcomes of their elements.
func TestRunsOfDefiningTerms(t *testing.T) {
	t.Parallel()
	ran := 0
	for _, w := range countedTypes("f") {
		if !w.plain {
			continue
		}
		for _, k := range someElements(w.count, 100) {
			s, _ := impl.Define(w.text, k)
			for state := range 2 {
				print, behind := "fail", 0
				if o := answerOf(w.text, k, state); o.fine {
					print, behind = "(return "+textOf(kidOf(w.text, 0), o.element)+")", o.state
				}
				wantMeaningRun(t, s, state, print, behind)
				ran++
			}
		}
	}
	// Those of other types are run where what they mean can be seen.
	for k := range countOf("(> b (f b))") {
		s, _ := impl.Define("(> b (f b))", k)
		for a, app := range []string{"(app " + s + " 0)", "(app (force (thunk " + s + ")) 1)"} {
			wantMeaningAsRun(t, app)
			wantElement(t, app, "(f b)", appliedTo("(> b (f b))", k, a))
		}
	}
	for _, k := range someElements(countOf("(& (f b) (f b))"), 200) {
		s, _ := impl.Define("(& (f b) (f b))", k)
		first, second := partsOf("(& (f b) (f b))", k)
		wantMeaningAsRun(t, "(fst "+s+")")
		wantElement(t, "(fst "+s+")", "(f b)", first)
		wantMeaningAsRun(t, "(snd "+s+")")
		wantElement(t, "(snd "+s+")", "(f b)", second)
	}
	for _, k := range someElements(countOf("(f (u (f b)))"), 200) {
		s, _ := impl.Define("(f (u (f b)))", k)
		wantMeaningAsRun(t, "(to "+s+" x (force x))")
	}
	if ran < 3000 {
		t.Errorf("just %d runs of plain types", ran)
	}
}

// wantTestOf wants the test of x for an element, which returns 1 for it alone of some elements.
func wantTestOf(t *testing.T, typ string, tested int, others []int) {
	t.Helper()
	want := testMade(madeAtom("x"), typ, tested).text()
	s, ok := impl.TestValue(typ, tested)
	if !ok || s != want {
		t.Fatalf("TestValue(%s, %d) = %s, %v, want %s", typ, tested, s, ok, want)
	}
	if free, ok := impl.TermFree(s); !ok || strings.Join(free, " ") != "x" {
		t.Fatalf("TermFree(%s) = %q, %v", s, free, ok)
	}
	for _, k := range append(others, tested) {
		defined, _ := impl.Define(typ, k)
		put, fine := impl.TermPut(s, "x", defined)
		element, known := impl.Denote(put)
		if !fine || !known || element != told(k == tested) {
			t.Fatalf("the test for %d of %s, with %d put for x, is %s, which means %d, %v", tested, typ, k, put, element, known)
		}
		if k%5 == tested%5 {
			wantTold(t, put, k == tested)
			wantIn(t, meantEnv{}.with("x", typ, k), s, told(k == tested))
		}
	}
}

func TestPromise55TestsOfValues(t *testing.T) {
	t.Parallel()
	for _, typ := range []string{"b", "(* b b)", "(* b (* b b))", "(* (* b b) b)", "(* (* b b) (* b b))", "(u (f b))", "(* b (u (f b)))", "(* (u (f b)) b)"} {
		for tested := range countOf(typ) {
			wantTestOf(t, typ, tested, someElements(countOf(typ), 30))
		}
	}
	for _, typ := range []string{"(u (f (* b b)))", "(u (> b (f b)))", "(u (& (f b) (f b)))", "(u (f (u (f b))))", "(u (& (f b) (f (* b b))))", "(u (& (f (* b b)) (f b)))", "(u (f (* b (* b b))))", "(* (u (> b (f b))) b)"} {
		for i, tested := range someElements(countOf(typ), 40) {
			others := append(neighbours(typ, tested), 0, countOf(typ)-1, (tested*7+i)%countOf(typ))
			wantTestOf(t, typ, tested, others)
		}
	}
	for _, w := range countedTypes("*u") {
		for _, tested := range []int{0, w.count / 2, w.count - 1} {
			wantTestOf(t, w.text, tested, neighbours(w.text, tested)[:1])
		}
	}
}

// wantTestComp wants the test of a computation for an element, or that it is too large. It reports whether there is one.
func wantTestComp(t *testing.T, w meantTerm, k int) bool {
	t.Helper()
	want := testOfMade(w.term, w.typ, k)
	if !fitsLimits(want) {
		wantNoTest(t, w.text, k)
		return false
	}
	s, ok := impl.TestComp(w.text, k)
	if !ok || s != want.text() {
		t.Fatalf("TestComp(%s, %d) = %s, %v, want %s", w.text, k, s, ok, want.text())
	}
	if element, ok := impl.Denote(s); !ok || element != told(k == w.element) {
		t.Fatalf("TestComp(%s, %d) = %s, which means %d, %v; the computation means %d", w.text, k, s, element, ok, w.element)
	}
	for state := range 2 {
		print, left, _, ok := impl.Run(s, state, impl.FuelMax)
		if ok && (print != toldPrint(k == w.element) || left != state) {
			t.Fatalf("Run(%s, %d) = %s, %d; the computation means %d", s, state, print, left, w.element)
		}
	}
	return true
}

func TestPromise56TestsOfComputations(t *testing.T) {
	t.Parallel()
	tests, large, heads := 0, 0, map[string]int{}
	for i, w := range closedMeantComputations() {
		near := neighbours(w.typ, w.element)
		for _, k := range []int{w.element, near[i%len(near)], near[i*5%len(near)], 0, countOf(w.typ) - 1} {
			if wantTestComp(t, w, k) {
				tests++
				heads[typesByText()[w.typ].head]++
			} else {
				large++
			}
		}
		for _, k := range noElements(countOf(w.typ)) {
			wantNoTest(t, w.text, k)
		}
	}
	t.Log(tests, large, heads)
	if heads["f"] < 1000 || heads[">"] < 500 || heads["&"] < 500 {
		t.Errorf("tests of computations by the heads of their types: %v", heads)
	}
}

// TestTestsForEachElement has all elements of some types.
func TestTestsForEachElement(t *testing.T) {
	t.Parallel()
	for _, w := range []struct{ typ, s string }{
		{"(f b)", "(fail (f b))"}, {"(f b)", "(get x (put x (return x)))"}, {"(f b)", "(get x (if x (put 0 (return 1)) (fail (f b))))"}, {"(f (* b b))", "(get x (put 0 (return (pair 1 x))))"},
		{"(> b (f b))", "(lam x b (return x))"}, {"(> b (f b))", "(lam x b (if x (fail (f b)) (put 1 (return x))))"}, {"(& (f b) (f b))", "(both (put 0 (return 0)) (get x (put 1 (return x))))"},
	} {
		element, _ := impl.Denote(w.s)
		for k := range countOf(w.typ) {
			test, ok := impl.TestComp(w.s, k)
			if got, known := impl.Denote(test); !ok || !known || got != told(k == element) {
				t.Fatalf("TestComp(%s, %d) = %s, %v, which means %d, %v", w.s, k, test, ok, got, known)
			}
			wantTold(t, test, k == element)
		}
	}
}

// somePairs returns pairs of closed computations of one type with meanings, of which some mean the same and others nearly.
func somePairs(seed uint64) [][2]meantTerm {
	types, groups := byType(closedMeantComputations())
	d := newMeantDice(seed, 0)
	var all [][2]meantTerm
	for _, typ := range types {
		for range len(groups[typ]) {
			a, b := d.oneOf(groups[typ]), d.oneOf(groups[typ])
			near := neighbours(typ, a.element)
			other := near[d.IntN(len(near))]
			beside := definedMade(typ, other)
			all = append(all, [2]meantTerm{a, b}, [2]meantTerm{a, {beside, meantEnv{}, beside.text(), typ, other}})
		}
	}
	return all
}

// testsOf returns the tests of both for what the first one means, and true if they are terms.
func testsOf(pair [2]meantTerm) (*madeTerm, *madeTerm, bool) {
	first, second := testOfMade(pair[0].term, pair[0].typ, pair[0].element), testOfMade(pair[1].term, pair[0].typ, pair[0].element)
	return first, second, fitsLimits(first) && fitsLimits(second)
}

func TestPromise57ComputationsToldApart(t *testing.T) {
	t.Parallel()
	apart, same, large := 0, 0, 0
	for _, pair := range somePairs(21) {
		a, b := pair[0], pair[1]
		firstWant, secondWant, fits := testsOf(pair)
		switch {
		case a.element == b.element:
			same++
		case !fits:
			large++
		default:
			apart++
			first, second, ok := impl.Separate(a.text, b.text)
			if !ok || first != firstWant.text() || second != secondWant.text() || impl.MeaningSame(a.text, b.text) {
				t.Fatalf("Separate(%s, %s) = %s, %s, %v, want %s, %s", a.text, b.text, first, second, ok, firstWant.text(), secondWant.text())
			}
			if !impl.MeaningSame(first, "(return 1)") || !impl.MeaningSame(second, "(return 0)") {
				t.Fatalf("Separate(%s, %s) = %s, %s, which do not mean 1 and 0", a.text, b.text, first, second)
			}
			continue
		}
		wantNotSeparated(t, a.text, a.text)
		if first, second, ok := impl.Separate(a.text, b.text); ok || first != "" || second != "" {
			t.Fatalf("Separate(%s, %s) = %s, %s, %v", a.text, b.text, first, second, ok)
		}
	}
	t.Log(apart, same, large)
	if apart < 2000 || same < 100 {
		t.Errorf("%d pairs are told apart, %d mean the same", apart, same)
	}
	d := newMeantDice(22, 0)
	for range 1000 {
		if a, b := d.oneOf(closedMeantComputations()), d.oneOf(closedMeant()); a.typ != b.typ {
			wantNotSeparated(t, a.text, b.text)
		}
	}
}

func TestPromise58RunsToldApart(t *testing.T) {
	t.Parallel()
	ran := 0
	for _, pair := range somePairs(23) {
		first, second, ok := impl.Separate(pair[0].text, pair[1].text)
		if !ok {
			continue
		}
		for state := range 2 {
			for i, s := range []string{first, second} {
				print, left, _, fine := impl.Run(s, state, impl.FuelMax)
				if !fine {
					continue
				}
				ran++
				if print != toldPrint(i == 0) || left != state {
					t.Fatalf("Separate(%s, %s) = %s, %s; Run(%s, %d) = %s, %d", pair[0].text, pair[1].text, first, second, s, state, print, left)
				}
			}
		}
	}
	if ran < 5000 {
		t.Errorf("just %d runs", ran)
	}
}

func TestPromise59SizesOfDefiningTerms(t *testing.T) {
	t.Parallel()
	thunks := 0
	for _, w := range countedTypes("") {
		for _, k := range someElements(w.count, 20) {
			s, _ := impl.Define(w.text, k)
			size := impl.DefineSize(w.text, k)
			if size != impl.TermSize(s) || size != definedMade(w.text, k).atoms() {
				t.Fatalf("DefineSize(%s, %d) = %d, but %s has %d", w.text, k, size, s, impl.TermSize(s))
			}
			if thunk, ok := impl.TypeThunk(w.text); ok {
				thunks++
				if more := impl.DefineSize(thunk, k); more != size+1 {
					t.Fatalf("DefineSize(%s, %d) = %d, but %d for %s", thunk, k, more, size, w.text)
				}
			}
		}
		for _, k := range noElements(w.count) {
			if size := impl.DefineSize(w.text, k); size != -1 {
				t.Errorf("DefineSize(%s, %d) = %d", w.text, k, size)
			}
		}
	}
	if thunks < 300 {
		t.Errorf("just %d elements of suspended types", thunks)
	}
}

func TestPromise60DefinedAgain(t *testing.T) {
	t.Parallel()
	for _, w := range closedMeant() {
		s, ok := impl.DefineAgain(w.text)
		if want := definedMade(w.typ, w.element).text(); !ok || s != want || !impl.MeaningSame(s, w.text) {
			t.Fatalf("DefineAgain(%s) = %s, %v, want %s", w.text, s, ok, want)
		}
		if again, ok := impl.DefineAgain(s); !ok || again != s {
			t.Fatalf("DefineAgain(%s) = %s, %v", s, again, ok)
		}
	}
	for _, m := range someClosedTerms() {
		if s := m.text(); !impl.TermKnown(s) {
			wantNotDefinedAgain(t, s)
		}
	}
	for _, s := range slices.Concat(notMeant(), noTerms(), []string{"x", "(return x)", "(thunk (return x))", "(get x (return y))", "b", "(f b)"}) {
		wantNotDefinedAgain(t, s)
	}
}

func TestPromise61EachElementIsMeant(t *testing.T) {
	t.Parallel()
	types := 0
	for _, w := range countedTypes("") {
		if w.count > 25 {
			continue
		}
		types++
		var all []string
		for k := range w.count {
			s, ok := impl.Define(w.text, k)
			if !ok {
				t.Fatalf("Define(%s, %d) fails", w.text, k)
			}
			wantElement(t, s, w.text, k)
			for _, other := range all {
				if impl.MeaningSame(s, other) || impl.MeaningSame(other, s) {
					t.Fatalf("%s and %s, of %s, mean the same", s, other, w.text)
				}
			}
			all = append(all, s)
		}
	}
	if types < 10 {
		t.Errorf("just %d types have at most 25 elements", types)
	}
}

func TestPromise62TheSameOrToldApart(t *testing.T) {
	t.Parallel()
	for _, pair := range somePairs(24) {
		a, b := pair[0].text, pair[1].text
		_, _, apart := impl.Separate(a, b)
		if impl.MeaningSame(a, b) != (pair[0].element == pair[1].element) || apart && impl.MeaningSame(a, b) {
			t.Fatalf("MeaningSame(%s, %s) = %v, Separate %v", a, b, impl.MeaningSame(a, b), apart)
		}
		if apart || impl.MeaningSame(a, b) {
			continue
		}
		_, okA := impl.TestComp(a, pair[0].element)
		_, okB := impl.TestComp(b, pair[0].element)
		if okA && okB {
			t.Fatalf("Separate(%s, %s) fails, but both have tests for %d", a, b, pair[0].element)
		}
	}
}
