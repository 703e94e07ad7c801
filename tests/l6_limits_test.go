package tests

import (
	"slices"
	"testing"

	"loop.example/pushvalue/impl"
)

// returningOfAtoms returns a computation of (f b) that returns 0 and has so many atoms, which are at least 4, with few parentheses within each other.
func returningOfAtoms(n int) string {
	puts := 0
	for (n+1-2*puts)%3 != 0 {
		puts++
	}
	returns := slices.Repeat([]string{"(return 0)"}, (n+1-2*puts)/3)
	return nest(puts, "(put 1 ...)", allOf("try", returns))
}

// wantFitting wants that a computation has a test for an element if it is said to be a term, and that the test has just so many atoms or parentheses.
func wantFitting(t *testing.T, s string, k int, fine bool, atoms, nests int) {
	t.Helper()
	if !fine {
		if !impl.TermKnown(s) {
			t.Errorf("%s has no meaning", quoted(s))
		}
		wantNoTest(t, s, k)
		return
	}
	test, ok := impl.TestComp(s, k)
	if !ok || atoms > 0 && impl.TermSize(test) != atoms || nests > 0 && nesting(test) != nests {
		t.Errorf("TestComp(%s, %d) has %d atoms and parentheses within each other %d times, %v, want %d and %d", quoted(s), k, impl.TermSize(test), nesting(test), ok, atoms, nests)
	}
	element, _ := impl.Denote(s)
	wantElement(t, test, "(f b)", told(k == element))
	wantTold(t, test, k == element)
}

// TestTestsWithAtomsAtTheirLimit has computations whose tests have 1500 atoms, and such with 1 atom more: a test has them twice for each return to which its type comes, so that its number of atoms is always even.
func TestTestsWithAtomsAtTheirLimit(t *testing.T) {
	t.Parallel()
	both := func(n int) string { return "(both " + returningOfAtoms(n/2) + " " + returningOfAtoms(n-1-n/2) + ")" }
	lam := func(n int) string { return "(lam x b " + returningOfAtoms(n-3) + ")" }
	for _, w := range []struct {
		of   func(int) string
		most int
		k    int
	}{
		// 32 atoms beside both, and 10 or more for each outcome without a failure
		{returningOfAtoms, 734, 0}, {returningOfAtoms, 729, 4}, {returningOfAtoms, 729, 20}, {returningOfAtoms, 727, 2}, {returningOfAtoms, 725, 1}, {returningOfAtoms, 724, 24}, {returningOfAtoms, 716, 6},
		// 74 atoms, and 78 for functions
		{both, 354, 4}, {both, 349, 24 + 25*4}, {lam, 353, 4}, {lam, 352, 2},
	} {
		s, larger := w.of(w.most), w.of(w.most+1)
		if impl.TermSize(s) != w.most || impl.TermSize(larger) != w.most+1 {
			t.Fatalf("computations of %d and %d atoms, want %d", impl.TermSize(s), impl.TermSize(larger), w.most)
		}
		wantFitting(t, s, w.k, true, impl.TermMax, 0)
		wantFitting(t, larger, w.k, false, 0, 0)
	}
	wantFitting(t, both(356), 0, true, impl.TermMax-2, 0)
	wantFitting(t, both(357), 0, false, 0, 0)
	wantFitting(t, returningOfAtoms(impl.TermMax), 0, false, 0, 0)
	wantFitting(t, returningOfAtoms(impl.TermMax-1), 16, false, 0, 0)
}

// TestTestsWithParenthesesAtTheirLimit has computations that stand within 7 parentheses of their tests, or 10 for functions and choices.
func TestTestsWithParenthesesAtTheirLimit(t *testing.T) {
	t.Parallel()
	for _, w := range []struct {
		inside string
		within int
		ks     []int
	}{
		{"(return 0)", 7, []int{0, 18, 24}}, {"(return (pair 0 1))", 7, []int{0, 6 + 9*6, 80}}, {"(return (thunk (return 0)))", 7, []int{0, 2600}}, {"(lam x b (return x))", 10, []int{0, 18 + 25*24, 624}}, {"(both (return 0) (return 1))", 10, []int{0, 18*25 + 24, 624}}, {"(both (return 0) (return (pair 1 1)))", 10, []int{0, 2024}},
	} {
		puts := 100 - w.within - nesting(w.inside)
		s, deeper := nest(puts, "(put 1 ...)", w.inside), nest(puts+1, "(put 1 ...)", w.inside)
		for _, k := range w.ks {
			wantFitting(t, s, k, true, 0, 100)
			wantFitting(t, deeper, k, false, 0, 0)
		}
		wantFitting(t, nest(100-nesting(w.inside), "(put 1 ...)", w.inside), 0, false, 0, 0)
	}
}

// TestTestsWithTooManyBytes has computations with nearly as many bytes as a term with its atoms can have.
func TestTestsWithTooManyBytes(t *testing.T) {
	t.Parallel()
	chain := nest(40, "(force (thunk ...))", "(get a123 (put 1 (return a123)))")
	for n, fine := range map[int]bool{8: true, 9: false, 16: false} {
		s := allOf("try", slices.Repeat([]string{chain}, n))
		if bytes := 2 * len(s); fine == (bytes > impl.TextMax) || len(s) > impl.TextMax {
			t.Errorf("%d bytes in a computation", len(s))
		}
		wantFitting(t, s, 23, fine, 0, 0)
		wantFitting(t, s, 0, fine, 0, 0)
	}
}

// TestSeparateAtTheLimits has computations of which just one has a test that is a term.
func TestSeparateAtTheLimits(t *testing.T) {
	t.Parallel()
	deep, deeper := nest(92, "(put 1 ...)", "(return 0)"), nest(93, "(put 1 ...)", "(return 0)")
	large, larger := returningOfAtoms(716), returningOfAtoms(728)
	for _, w := range []struct {
		a, b string
		fine bool
	}{
		{deep, "(return 1)", true}, {"(return 1)", deep, true}, {deeper, "(return 1)", false}, {"(return 1)", deeper, false}, {deep, large, true}, {deeper, larger, false}, {large, "(return 1)", true}, {"(return 1)", large, true},
		// the tests for what the other one means may be smaller
		{larger, "(fail (f b))", false}, {"(fail (f b))", larger, true}, {"(get x (if x (put 1 (return 1)) (fail (f b))))", larger, true}, {"(get x (if x (return 0) (fail (f b))))", larger, false},
	} {
		if !w.fine {
			wantSmall(t, w.a, w.b)
			continue
		}
		first, second, ok := impl.Separate(w.a, w.b)
		if !ok {
			t.Errorf("Separate(%s, %s) fails", quoted(w.a), quoted(w.b))
			continue
		}
		wantSeparated(t, w.a, w.b, first, second)
	}
}

// wantSmall wants that two computations with different meanings have no tests, as one of these is too large.
func wantSmall(t *testing.T, a, b string) {
	t.Helper()
	k, _ := impl.Denote(a)
	_, okA := impl.TestComp(a, k)
	_, okB := impl.TestComp(b, k)
	first, second, ok := impl.Separate(a, b)
	if ok || first != "" || second != "" || okA && okB || impl.MeaningSame(a, b) || !impl.TermKnown(a) || !impl.TermKnown(b) {
		t.Errorf("Separate(%s, %s) = %s, %s, %v; there are tests of both: %v and %v", quoted(a), quoted(b), quoted(first), quoted(second), ok, okA, okB)
	}
}

// TestTestsBeyondTheFuel has computations that take more steps than any fuel tells.
func TestTestsBeyondTheFuel(t *testing.T) {
	t.Parallel()
	const flip = "(get s (if s (put 0 (return s)) (put 1 (return s))))"
	const thrice = "(to (force t) x (to (force t) y (force t)))"
	s := nest(28, "(to (return (thunk ...)) t "+thrice+")", flip)
	wantElement(t, s, "(f b)", 13)
	for k := range countOf("(f b)") {
		test, ok := impl.TestComp(s, k)
		if !ok {
			t.Fatalf("TestComp(%s, %d) fails", quoted(s), k)
		}
		wantElement(t, test, "(f b)", told(k == 13))
		wantTooLittle(t, test, 0, impl.FuelMax)
	}
	first, second, ok := impl.Separate(s, "(return 0)")
	if !ok || !impl.MeaningSame(first, "(return 1)") || !impl.MeaningSame(second, "(return 0)") {
		t.Errorf("Separate(%s, (return 0)) = %s, %s, %v", quoted(s), quoted(first), quoted(second), ok)
	}
	if again, ok := impl.DefineAgain(s); !ok || again != "(get k0 (if k0 (put 0 (return 1)) (put 1 (return 0))))" {
		t.Errorf("DefineAgain(%s) = %s, %v", quoted(s), again, ok)
	}
}

// TestLargeTermsAreDefinedAgain has terms at their limits: what they mean has a small term.
func TestLargeTermsAreDefinedAgain(t *testing.T) {
	t.Parallel()
	const want = "(get k0 (if k0 (put 1 (return 0)) (put 0 (return 0))))"
	for _, s := range []string{returningOfAtoms(impl.TermMax - 1), nest(49, "(force (thunk ...))", "(return 0)"), nest(98, "(try ... (return 1))", "(return 0)")} {
		if again, ok := impl.DefineAgain(s); !ok || again != want {
			t.Errorf("DefineAgain(%s) = %s, %v", quoted(s), again, ok)
		}
		wantNoTest(t, s, 16)
	}
	for _, s := range append(textsBeyondLimits(), textsAtLimits()...) {
		wantNotDefinedAgain(t, s)
		wantNoTest(t, s, 0)
		wantNotSeparated(t, s, "(return 0)")
	}
}
