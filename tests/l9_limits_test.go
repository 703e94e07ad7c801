package tests

import (
	"slices"
	"strconv"
	"strings"
	"testing"

	"loop.example/pushvalue/impl"
)

// wantSimplifiedIf wants that a term comes to another one with a rule if this is a term, and otherwise that it does not, though it is not simple.
func wantSimplifiedIf(t *testing.T, s string, number int, want string, fine bool) {
	t.Helper()
	if impl.TermSort(s) == "" || (impl.TermSort(want) != "") != fine {
		t.Errorf("TermSort(%s) = %q, of %d bytes and %d atoms; TermSort(%s) = %q, of %d bytes and %d atoms", quoted(s), impl.TermSort(s), len(s), len(strings.Fields(s)), quoted(want), impl.TermSort(want), len(want), len(strings.Fields(want)))
	}
	if fine {
		wantOnce(t, s, number, want)
	} else {
		wantNotOnce(t, s, number)
	}
}

func TestSimplifyingAtTheLimitsOfTerms(t *testing.T) {
	for _, s := range textsAtLimits() {
		wantNotOnce(t, s, 0)
	}
	for _, s := range textsBeyondLimits() {
		wantNoEquations(t, s)
	}
}

// puttingForms are terms with a part N in which a value V is put for x, and what they come to, with N as the part in which it is put.
var puttingForms = []struct {
	number   int
	form, to string
}{
	{3, "(to (return V) x N)", "N"}, {6, "(app (lam x b N) V)", "N"}, {10, "(split (pair V 0) x z N)", "N"}, {10, "(split (pair 0 V) z x N)", "N"}, {14, "(put V (get x N))", "(put V N)"}, {3, "(fst (to (return V) x N))", "(fst N)"},
}

// putting returns a term of a form and what it comes to.
func putting(form, to, value, body string) (string, string) {
	s := strings.NewReplacer("V", value, "N", body).Replace(form)
	return s, strings.NewReplacer("V", value, "N", strings.ReplaceAll(body, "x", value)).Replace(to)
}

// TestResultsWithManyAtoms has results with 1500 atoms, with 1501 and with many more.
func TestResultsWithManyAtoms(t *testing.T) {
	for _, f := range puttingForms {
		sizes := map[int]bool{}
		for _, leaves := range []int{247, 248, 249, 250, 251, 300} {
			for more := range 12 {
				s, want := putting(f.form, f.to, "(pair 0 (pair 1 y))", nest(more, "(fst ...)", "(return "+pairsOf(leaves, "x")+")"))
				atoms := len(strings.Fields(want))
				sizes[atoms] = true
				wantSimplifiedIf(t, s, f.number, want, atoms <= impl.TermMax)
			}
		}
		if !sizes[impl.TermMax] || !sizes[impl.TermMax+1] {
			t.Errorf("no result of %s has just so many atoms: %v", f.form, sizes)
		}
	}
	wantSimplifiedIf(t, "(to (return "+pairsOf(370, "1")+") x (return "+pairsOf(370, "x")+"))", 3, "", false)
	wantSimplifiedIf(t, "(lam y b (split (pair "+pairsOf(180, "y")+" "+pairsOf(180, "1")+") x z (return (pair "+pairsOf(180, "x")+" "+pairsOf(180, "z")+"))))", 10, "", false)
}

// TestResultsWithManyBytes has results with 12000 bytes and with 12001.
func TestResultsWithManyBytes(t *testing.T) {
	value := "(pair y123 (pair y123 (pair y123 (pair y123 (pair y123 (pair y123 (pair y123 y123)))))))"
	for _, f := range puttingForms {
		_, without := putting(f.form, f.to, value, "(both (return x) (both (return x) ))")
		for more := -3; more <= 3; more++ {
			body := "(both (return x) (both (return x) " + computationOfChains(impl.TextMax-len(without)+more, 83) + "))"
			s, want := putting(f.form, f.to, value, body)
			if len(want) != impl.TextMax+more {
				t.Errorf("%d bytes", len(want))
			}
			wantSimplifiedIf(t, s, f.number, want, more <= 0)
		}
	}
}

// TestCanonicalNamesOfResults has results that are too long, or just not, as canonical names are longer or shorter than those that they have in the term.
func TestCanonicalNamesOfResults(t *testing.T) {
	for _, name := range []string{"x", "x1", "x12", "x123"} {
		uses := "(get x (both " + allOf("both", slices.Repeat([]string{"(return x)"}, 30)) + " (return x)))"
		for more := -2; more <= 2; more++ {
			canonical := "(both " + strings.ReplaceAll(uses, "x", "n0") + " )"
			part := computationOfChains(impl.TextMax-len(canonical)+more, 83)
			s := strings.ReplaceAll("(if 1 (both "+uses+" "+part+") (return 0))", "x", name)
			if len(s) > impl.TextMax {
				continue
			}
			wantSimplifiedIf(t, s, 8, strings.Replace(canonical, " )", " "+part+")", 1), more <= 0)
		}
	}
	// What results has too many bytes with its own names, but not with canonical ones.
	value := "(thunk (get z123 (return (pair z123 (pair z123 z123)))))"
	body := "(both (return x) (both (return x) (both (return x) PART)))"
	canonical := body
	for _, name := range []string{"n0", "n1", "n2"} {
		canonical = strings.Replace(canonical, "x", strings.ReplaceAll(value, "z123", name), 1)
	}
	for more := range 2 {
		part := computationOfChains(impl.TextMax-len(canonical)+len("PART")+more, 83)
		s, own := putting("(to (return V) x N)", "N", value, strings.Replace(body, "PART", part, 1))
		if len(own) <= impl.TextMax {
			t.Errorf("%d bytes with its own names", len(own))
		}
		wantSimplifiedIf(t, s, 3, strings.Replace(canonical, "PART", part, 1), more == 0)
	}
}

// TestResultsWithManyNames has results for which canonical names up to n899 are needed, and such that need one more.
func TestResultsWithManyNames(t *testing.T) {
	for _, w := range []struct {
		first, free, splits, gets int
		fine                      bool
	}{{0, 300, 300, 0, true}, {0, 300, 300, 1, false}, {0, 301, 301, 0, false}, {0, 299, 300, 1, true}, {0, 299, 300, 2, false}, {600, 300, 300, 0, true}, {600, 300, 300, 1, false}, {0, 1, 365, 0, true}} {
		many := manyBound(w.first, w.free, w.splits, w.gets)
		canon, ok := impl.TermCanon(many)
		if ok != w.fine {
			t.Errorf("TermCanon(%s) %v", quoted(many), ok)
		}
		for s, number := range map[string]int{"(if 1 " + many + " (return 0))": 8, "(fst (both " + many + " (return 0)))": 11, "(put 0 (put 1 " + many + "))": 13} {
			want := canon
			if number == 13 && w.fine {
				want = "(put 1 " + canon + ")"
			}
			wantSimplifiedIf(t, s, number, want, w.fine)
		}
		// The term itself may have no canonical names.
		wantOnce(t, "(if 0 "+many+" (return 0))", 8, "(return 0)")
	}
}

// TestResultsWithParenthesesAtTheirLimit has results with parentheses within each other 100 times, and 101 times.
func TestResultsWithParenthesesAtTheirLimit(t *testing.T) {
	for _, w := range []struct {
		number int
		form   string // with ... for a computation
		result string
		around int // so many times in the result
	}{
		{5, "(to (to (force f) x (force x)) y ...)", "(to (force f) n0 (to (force n0) n1 ...))", 2}, {5, "(fst (to (to (force f) x (force x)) y ...))", "(fst (to (force f) n0 (to (force n0) n1 ...)))", 3}, {3, "(to (return (thunk ...)) x (fst (force x)))", "(fst (force (thunk ...)))", 3}, {3, "(to (return (thunk ...)) x (fst (fst (force x))))", "(fst (fst (force (thunk ...))))", 4},
		{6, "(app (lam x b (put y (fst (fst (force x))))) (thunk ...))", "(put y (fst (fst (force (thunk ...)))))", 5}, {10, "(split (pair z (thunk ...)) x y (return (pair 0 (pair 0 (pair 0 y)))))", "(return (pair 0 (pair 0 (pair 0 (thunk ...)))))", 5}, {14, "(put (thunk ...) (get x (fst (force x))))", "(put (thunk ...) (fst (force (thunk ...))))", 4},
	} {
		for n := 88; n < 100; n++ {
			inside := nest(n, "(fst ...)", "(force g)")
			s := strings.Replace(w.form, "...", inside, 1)
			if nesting(s) > 100 {
				continue
			}
			wantSimplifiedIf(t, s, w.number, strings.ReplaceAll(w.result, "...", inside), w.around+n+1 <= 100)
		}
	}
	// Another part could be simplified, but it is not the first one.
	deep := nest(97, "(fst ...)", "(force g)")
	wantNotOnce(t, "(both (to (to (force f) x (force x)) y "+deep+") (if 1 (return 0) (return 1)))", 5)
	once := "(both (force f) (to (to (force f) n1 (force n1)) n0 " + deep + "))"
	s := "(both (force (thunk (force f))) (to (to (force f) x (force x)) y " + deep + "))"
	wantOnce(t, s, 1, once)
	wantUpTo(t, s, mostTimes, once, 1)
	wantNotOnce(t, once, 5)
	wantEqual(t, s, once, true)
	wantEqual(t, s, strings.Replace(s, "force x", "force f", 1), false)
}

// wantLast wants that a term is simplified so many times, and that the rule with a number makes no term of what it comes to then.
func wantLast(t *testing.T, s string, times, number int) string {
	t.Helper()
	last, often, ok := impl.Simplify(s, mostTimes)
	if !ok || often != times {
		t.Errorf("Simplify(%s, %d) = %s, %d, %v, want %d", quoted(s), mostTimes, quoted(last), often, ok, times)
	}
	wantNotOnce(t, last, number)
	wantEqual(t, s, last, true)
	wantUpTo(t, s, times, last, times)
	if before, often, _ := impl.Simplify(s, times-1); often != times-1 {
		t.Errorf("Simplify(%s, %d) = %s, %d", quoted(s), times-1, quoted(before), often)
	} else {
		wantOnce(t, before, impl.SimplifyRule(before), last)
	}
	return last
}

// TestTermsThatGrow has terms that are never simple, and grow until what results is no term.
func TestTermsThatGrow(t *testing.T) {
	// Behind 2 times n there are n more fst. Behind once more there are parentheses within each other n + 8 times.
	s := appliedToItself(growing)
	last := wantLast(t, s, 186, 6)
	if canon, _ := impl.TermCanon(nest(93, "(fst ...)", s)); last != canon || nesting(last) != 99 {
		t.Errorf("Simplify(%s, %d) = %s", s, mostTimes, last)
	}
	for _, more := range []int{1, 2, 10, 50, 91, 92} {
		wantLast(t, nest(more, "(fst ...)", s), 186-2*more, 6)
	}
	// Each two times there are some atoms more, so that there are too many of them ahead of too many parentheses.
	wide := strings.Replace(growing, "(fst (app (force x) x))", "(both (app (force x) x) (return (pair (pair x x) (pair x x))))", 1)
	last, times, _ := impl.Simplify(appliedToItself(wide), mostTimes)
	if size := impl.TermSize(last); size > impl.TermMax || size < impl.TermMax-150 || nesting(last) > 60 || times < 20 {
		t.Errorf("Simplify(%s, %d) comes to %d atoms in %d times", wide, mostTimes, size, times)
	}
	wantLast(t, appliedToItself(wide), times, 6)
	// Pairs of twice as many leaves each time, of which 512 have 1023 atoms
	doubling := nest(12, "(to (return (pair x x)) x ...)", "(return x)")
	last = wantLast(t, "(to (return 0) x "+doubling+")", 9, 3)
	if !strings.HasPrefix(last, "(to (return "+pairsOf(512, "0")+") n0 ") {
		t.Errorf("Simplify(%s, %d) = %s", quoted(doubling), mostTimes, quoted(last))
	}
}

// chains returns a computation that is simplified so many times, which are at most 280, until it is that for none.
func chains(times int) string {
	var parts []string
	for i := range 7 {
		parts = append(parts, nest(min(max(0, times-40*i), 40), "(force (thunk ...))", "(force f)"))
	}
	return allOf("both", parts)
}

// TestSimplifyingUpToTheGreatestNumber has terms that are simple when they are simplified 199, 200 and 201 times.
func TestSimplifyingUpToTheGreatestNumber(t *testing.T) {
	for _, times := range []int{1, 40, 41, 199, mostTimes, mostTimes + 1, mostTimes + 2, 240} {
		s, simple := chains(times), chains(0)
		last, often, ok := impl.Simplify(s, mostTimes)
		done := times <= mostTimes
		if !ok || often != min(times, mostTimes) || (last == simple) != done || impl.SimpleIs(last) != done {
			t.Errorf("Simplify of %d times = %s, %d, %v", times, last, often, ok)
		}
		wantEqual(t, s, simple, done)
		wantEqual(t, s, s, true)
		wantEqual(t, chains(times+1), s, times < mostTimes)
		if rest, often, ok := impl.Simplify(last, mostTimes); !ok || rest != simple || often != max(0, times-mostTimes) {
			t.Errorf("Simplify(%s, %d) = %s, %d, %v", quoted(last), mostTimes, rest, often, ok)
		}
	}
}

// TestLargeTermsAreSimplified has terms that are about as large as they can be, of which all is looked at each time.
func TestLargeTermsAreSimplified(t *testing.T) {
	t.Parallel()
	many := slices.Repeat([]string{"(force (thunk (force f)))"}, 240)
	simple := slices.Repeat([]string{"(force f)"}, 240)
	last, times, ok := impl.Simplify(allOf("both", many), mostTimes)
	if !ok || times != mostTimes || strings.Count(last, "thunk") != 240-mostTimes {
		t.Errorf("Simplify of %d parts = %s, %d, %v", len(many), quoted(last), times, ok)
	}
	wantUpTo(t, allOf("try", many[:mostTimes]), mostTimes, allOf("try", simple[:mostTimes]), mostTimes)
	// Each name stands behind all of the parts.
	var uses []string
	for n := range 42 {
		uses = append(uses, "(return x"+strconv.Itoa(n)+")")
	}
	gets := func(parts []string) string {
		return nest(42, "(get x# (try ... (force g)))", allOf("both", append(slices.Clone(parts), allOf("both", uses))))
	}
	want, _ := impl.TermCanon(gets(simple[:180]))
	wantUpTo(t, gets(many[:180]), mostTimes, want, 180)
	// Of each two parts, just the last names differ.
	var choices func(n int, last string) string
	choices = func(n int, last string) string {
		if n == 0 {
			return "(force " + last + ")"
		}
		return "(if x " + choices(n-1, "f") + " " + choices(n-1, last) + ")"
	}
	wantUpTo(t, choices(8, "g"), mostTimes, nest(8, "(if x (force f) ...)", "(force g)"), 7+6+5+4+3+2+1)
	wantEqual(t, choices(8, "g"), choices(8, "h"), false)
	wantEqual(t, choices(8, "f"), "(force f)", true)
}
