package tests

import (
	"math"
	"slices"
	"strings"
	"testing"

	"loop.example/pushvalue/impl"
)

// Each test of this file holds a promise of chapter 9 against terms to which the document's rules are applied as it writes them, and against invalid arguments.

const mostTimes = 200

// noTimes returns numbers that are out of the range of Simplify.
func noTimes() []int {
	return []int{-1, -2, -mostTimes, mostTimes + 1, mostTimes + 2, 1000, 1 << 32, math.MinInt, math.MaxInt}
}

// wantOnce wants that a term comes to another one with a rule.
func wantOnce(t *testing.T, s string, number int, want string) {
	t.Helper()
	if once, ok := impl.SimplifyOnce(s); !ok || once != want {
		t.Errorf("SimplifyOnce(%s) = %s, %v, want %s", quoted(s), once, ok, want)
	}
	if got := impl.SimplifyRule(s); got != number || impl.SimpleIs(s) {
		t.Errorf("SimplifyRule(%s) = %d, SimpleIs %v, want %d", quoted(s), got, impl.SimpleIs(s), number)
	}
	wantUpTo(t, s, 1, want, 1)
	wantUpTo(t, s, 0, s, 0)
}

// wantNotOnce wants that a term does not come to another one: it is simple if the number is 0, and otherwise what the rule of this number makes of it is no term with canonical names.
func wantNotOnce(t *testing.T, s string, number int) {
	t.Helper()
	wantNoOnce(t, s)
	if got := impl.SimplifyRule(s); got != number || impl.SimpleIs(s) != (number == 0) {
		t.Errorf("SimplifyRule(%s) = %d, SimpleIs %v, want %d", quoted(s), got, impl.SimpleIs(s), number)
	}
	for _, n := range []int{0, 1, 2, mostTimes} {
		wantUpTo(t, s, n, s, 0)
	}
	if !impl.Equal(s, s) {
		t.Errorf("Equal(%s, %s) = false", quoted(s), quoted(s))
	}
}

func wantNoOnce(t *testing.T, s string) {
	t.Helper()
	if once, ok := impl.SimplifyOnce(s); ok || once != "" {
		t.Errorf("SimplifyOnce(%s) = %s, %v", quoted(s), once, ok)
	}
}

// wantUpTo wants what a term comes to in at most n times, and how often it is simplified.
func wantUpTo(t *testing.T, s string, n int, want string, times int) {
	t.Helper()
	if got, often, ok := impl.Simplify(s, n); !ok || got != want || often != times {
		t.Errorf("Simplify(%s, %d) = %s, %d, %v, want %s, %d", quoted(s), n, quoted(got), often, ok, quoted(want), times)
	}
}

func wantNoSimplify(t *testing.T, s string, n int) {
	t.Helper()
	if got, often, ok := impl.Simplify(s, n); ok || got != "" || often != 0 {
		t.Errorf("Simplify(%s, %d) = %s, %d, %v", quoted(s), n, quoted(got), often, ok)
	}
}

// wantNoEquations wants that nothing is told of a text that is no term.
func wantNoEquations(t *testing.T, s string) {
	t.Helper()
	wantNoOnce(t, s)
	if got := impl.SimplifyRule(s); got != -1 || impl.SimpleIs(s) {
		t.Errorf("SimplifyRule(%s) = %d, SimpleIs %v", quoted(s), got, impl.SimpleIs(s))
	}
	for _, n := range append(noTimes(), 0, 1, mostTimes) {
		wantNoSimplify(t, s, n)
	}
	if impl.Equal(s, s) || impl.Equal(s, "0") || impl.Equal("(return 0)", s) {
		t.Errorf("Equal(%s, ..) = true", quoted(s))
	}
}

func TestPromise79SimplifiedTerms(t *testing.T) {
	t.Parallel()
	typed, inside := 0, 0
	for _, w := range equationTerms() {
		if w.once == nil {
			wantNoOnce(t, w.text)
			continue
		}
		want := w.once.text()
		once, ok := impl.SimplifyOnce(w.text)
		if !ok || once != want {
			t.Fatalf("SimplifyOnce(%s) = %s, %v, want %s with rule %d", w.text, once, ok, want, w.number)
		}
		if canon, ok := impl.TermCanon(once); !ok || canon != once || impl.TermSort(once) != impl.TermSort(w.text) {
			t.Fatalf("SimplifyOnce(%s) = %s, TermCanon %s, %v, TermSort %s", w.text, once, canon, ok, impl.TermSort(once))
		}
		free, _ := impl.TermFree(w.text)
		left, _ := impl.TermFree(once)
		if slices.ContainsFunc(left, func(name string) bool { return !slices.Contains(free, name) }) {
			t.Fatalf("SimplifyOnce(%s) = %s with the free names %q, not just %q", w.text, once, left, free)
		}
		typ, ok := impl.TermType(w.env.names, w.env.types, w.text)
		if !ok {
			continue
		}
		typed++
		if len(free) > 0 {
			inside++
		}
		if got, ok := impl.TermType(w.env.names, w.env.types, once); !ok || got != typ {
			t.Fatalf("SimplifyOnce(%s) = %s of %s, %v, not of %s in %s", w.text, once, got, ok, typ, w.env.text())
		}
	}
	t.Log(typed, inside)
	if typed < 4000 || inside < 2000 {
		t.Errorf("just %d terms with a type, %d of them with free names", typed, inside)
	}
	for _, s := range noTerms() {
		wantNoEquations(t, s)
	}
}

// TestPromise79AgainAndAgain simplifies terms with a type until they are simple.
func TestPromise79AgainAndAgain(t *testing.T) {
	t.Parallel()
	simple, times := 0, 0
	for _, w := range equationTerms() {
		typ := w.standing.typ()
		if typ == "" {
			continue
		}
		for s, m := w.text, w.term; ; times++ {
			next, number := m.simplified()
			if next == nil {
				wantNotOnce(t, s, number)
				simple++
				break
			}
			once, ok := impl.SimplifyOnce(s)
			got, typed := impl.TermType(w.env.names, w.env.types, once)
			if !ok || once != next.text() || !typed || got != typ {
				t.Fatalf("SimplifyOnce(%s) = %s of %s, %v, want %s of %s", s, once, got, ok, next.text(), typ)
			}
			s, m = once, next
		}
	}
	t.Log(simple, times)
	if simple < 4000 || times < 10000 {
		t.Errorf("just %d terms, which were simplified %d times", simple, times)
	}
}

func TestPromise80MeaningsStay(t *testing.T) {
	t.Parallel()
	closed, inside, pure, rules := 0, 0, 0, map[int]int{}
	for _, w := range equatedMeant() {
		for s := w.text; ; {
			number := impl.SimplifyRule(s)
			once, ok := impl.SimplifyOnce(s)
			if !ok {
				break
			}
			rules[number]++
			if k, ok := impl.DenoteIn(w.env.names, w.env.types, w.env.elements, once); !ok || k != w.element {
				t.Fatalf("DenoteIn(%s, %s) = %d, %v, and %s means %d, with rule %d", w.env.text(), once, k, ok, s, w.element, number)
			}
			if impl.TermPure(s) {
				pure++
			}
			if len(w.term.uses()) > 0 {
				inside++
			} else {
				closed++
				wantMeaningStays(t, w, once)
			}
			s = once
		}
	}
	t.Log(closed, inside, pure, rules)
	if closed < 5000 || inside < 5000 || pure < 2000 {
		t.Errorf("just %d closed terms and %d with free names are simplified, %d of them without effects", closed, inside, pure)
	}
	for number := 1; number <= lastRule; number++ {
		if rules[number] < 50 {
			t.Errorf("rule %d is used just %d times", number, rules[number])
		}
	}
}

func wantMeaningStays(t *testing.T, w meantTerm, once string) {
	t.Helper()
	if k, ok := impl.Denote(once); !ok || k != w.element || !impl.MeaningSame(w.text, once) || !impl.MeaningSame(once, w.text) {
		t.Fatalf("Denote(%s) = %d, %v, and %s means %d", once, k, ok, w.text, w.element)
	}
}

// plainComputations returns closed computations of plain types: those with a meaning, and such within which there are types without a known count.
func plainComputations() []string {
	var all []string
	for _, w := range equatedMeant() {
		if len(w.term.uses()) == 0 && w.term.sort() == "computation" && impl.TypePlain(w.typ) {
			all = append(all, w.text)
		}
	}
	d := newTypedDice(40, 0)
	d.redexes = 3
	for i := range 2500 {
		m := d.computation(madeEnv{}, d.one("(f b)", "(f (* b b))", "(f (* b (* b b)))"), 2+i%5).crowded(d)
		if fitsLimits(m) {
			all = append(all, m.text())
		}
	}
	return all
}

func TestPromise81RunsStay(t *testing.T) {
	t.Parallel()
	ran, ends, unknown, rules := 0, map[string]int{}, 0, map[int]int{}
	for _, s := range plainComputations() {
		for times := 0; times < 12; times++ {
			once, ok := impl.SimplifyOnce(s)
			if !ok {
				break
			}
			number := impl.SimplifyRule(s)
			if !impl.TermKnown(s) {
				unknown++
			}
			for bit := range 2 {
				print, behind, _, ok := impl.Run(s, bit, impl.FuelMax)
				end, left, _, fine := impl.Run(once, bit, impl.FuelMax)
				if !ok || !fine {
					continue
				}
				if print != end || behind != left {
					t.Fatalf("Run(%s, %d) = %s, %d, and Run(%s, %d) = %s, %d, with rule %d", s, bit, print, behind, once, bit, end, left, number)
				}
				ran++
				rules[number]++
				ends[print]++
				if behind != bit && print != "fail" {
					ends["another bit"]++
				}
			}
			s = once
		}
	}
	t.Log(ran, ends, unknown, rules)
	if ran < 10000 || unknown < 1000 || ends["fail"] < 1000 || ends["another bit"] < 1000 || ends["(return 1)"] < 1000 || ends["(return (pair 1 0))"] < 100 {
		t.Errorf("just %d runs: %v, and %d terms without a meaning", ran, ends, unknown)
	}
	for number := 1; number <= lastRule; number++ {
		if rules[number] < 10 {
			t.Errorf("rule %d is used for just %d runs", number, rules[number])
		}
	}
}

func TestPromise82NumbersOfRules(t *testing.T) {
	t.Parallel()
	for _, w := range equationTerms() {
		number := impl.SimplifyRule(w.text)
		if number != w.number || number < 0 || number > lastRule || impl.SimpleIs(w.text) != (number == 0) {
			t.Fatalf("SimplifyRule(%s) = %d, SimpleIs %v, want %d", w.text, number, impl.SimpleIs(w.text), w.number)
		}
		if canon, ok := impl.TermCanon(w.text); ok && impl.SimplifyRule(canon) != number {
			t.Fatalf("SimplifyRule(%s) = %d, and SimplifyRule(%s) = %d", canon, impl.SimplifyRule(canon), w.text, number)
		}
		if number == 0 {
			wantNoOnce(t, w.text)
		}
	}
}

func TestPromise83Times(t *testing.T) {
	t.Parallel()
	d, many := newTermDice(41), 0
	for _, w := range equationTerms() {
		if d.IntN(3) > 0 {
			continue
		}
		m := w.term
		for n := range 6 {
			want, times := w.term.simplifiedUpTo(n)
			wantUpTo(t, w.text, n, want.text(), times)
			if n < times {
				t.Fatalf("%s is simplified %d times of %d", w.text, times, n)
			}
			m = want
		}
		for _, n := range []int{6, 7, 20, 199, mostTimes} {
			s, times, ok := impl.Simplify(w.text, n)
			next, more, _ := impl.Simplify(w.text, min(n+1, mostTimes))
			once, goesOn := impl.SimplifyOnce(s)
			if !ok || times > n || times < n && goesOn || times == n && n < mostTimes && goesOn && (next != once || more != n+1) {
				t.Fatalf("Simplify(%s, %d) = %s, %d, %v, and once more %s, %d, not %s, %v", w.text, n, s, times, ok, next, more, once, goesOn)
			}
		}
		if last, times := w.term.simplifiedUpTo(mostTimes); times > 5 {
			many++
			wantUpTo(t, w.text, mostTimes, last.text(), times)
			wantUpTo(t, m.text(), mostTimes, last.text(), times-5)
		}
		for _, n := range noTimes() {
			wantNoSimplify(t, w.text, n)
		}
	}
	if many < 100 {
		t.Errorf("just %d terms are simplified more than 5 times", many)
	}
}

func TestPromise84SimpleTerms(t *testing.T) {
	t.Parallel()
	simple := 0
	for _, w := range equationTerms() {
		if !impl.SimpleIs(w.text) {
			continue
		}
		simple++
		for _, n := range []int{0, 1, 2, 199, mostTimes} {
			wantUpTo(t, w.text, n, w.text, 0)
		}
		if !impl.Equal(w.text, w.text) {
			t.Fatalf("Equal(%s, %s) = false", w.text, w.text)
		}
	}
	if simple < 5000 {
		t.Errorf("just %d simple terms", simple)
	}
}

// wantEqual wants that two terms are equal exactly if it is so.
func wantEqual(t *testing.T, a, b string, want bool) {
	t.Helper()
	if impl.Equal(a, b) != want || impl.Equal(b, a) != want {
		t.Errorf("Equal(%s, %s) = %v, and exchanged %v, want %v", quoted(a), quoted(b), impl.Equal(a, b), impl.Equal(b, a), want)
	}
}

// around returns terms that come to a computation when they are simplified once.
func (d typedDice) around(m *madeTerm, typ string) []*madeTerm {
	x := "z9"
	other := d.computation(madeEnv{}, d.one("(f b)", typ), 2)
	all := []*madeTerm{
		madeOf("force", madeOf("thunk", m)), madeOf("to", returned("0"), ":"+x, m), madeOf("app", madeOf("lam", ":"+x, "b", m), madeAtom("1")), madeOf("if", madeAtom("1"), m, other), madeOf("if", madeAtom("0"), other, m), madeOf("if", madeAtom("x"), m, m.crowded(d)),
		madeOf("split", madeOf("pair", madeAtom("0"), madeAtom("1")), ":"+x, ":z8", m), madeOf("fst", madeOf("both", m, other)), madeOf("snd", madeOf("both", other, m)), madeOf("get", ":"+x, m), madeOf("both", madeOf("fst", m), madeOf("snd", m.crowded(d))), madeOf("lam", ":"+x, "b", madeOf("app", m, madeAtom(x))),
	}
	if typesByText()[typ].head == "f" {
		all = append(all, madeOf("to", m, ":"+x, returned(x)), madeOf("try", madeOf("fail", typ), m))
	}
	return all
}

func TestPromise85EqualTerms(t *testing.T) {
	t.Parallel()
	d, equal, unequal, same, meant := newMeantDice(42, 0), 0, 0, 0, 0
	hold := func(a, b *madeTerm) {
		first, _ := a.simplifiedUpTo(mostTimes)
		second, _ := b.simplifiedUpTo(mostTimes)
		want := first.markedText() == second.markedText()
		wantEqual(t, a.text(), b.text(), want)
		if !want {
			unequal++
			return
		}
		equal++
		if impl.TermKnown(a.text()) && impl.TermKnown(b.text()) {
			meant++
			if !impl.MeaningSame(a.text(), b.text()) {
				t.Fatalf("Equal(%s, %s) holds, and MeaningSame does not", a.text(), b.text())
			}
		}
	}
	types, groups := byType(equatedMeant())
	for _, typ := range types {
		for range min(len(groups[typ]), 300) {
			a, b := d.oneOf(groups[typ]), d.oneOf(groups[typ])
			hold(a.term, b.term)
			hold(a.term, d.renamed(a.term))
			if a.term.sort() == "value" {
				hold(a.term, madeOf("thunk", madeOf("force", a.term)))
				continue
			}
			some := d.around(a.term, typ)
			m := some[d.IntN(len(some))]
			if fitsLimits(m) && fitsLimits(madeOf("fst", m)) {
				hold(a.term, m)
				wantEqual(t, a.text, m.text(), true)
				same++
			}
		}
	}
	t.Log(equal, unequal, same, meant)
	if equal < 3000 || unequal < 1000 || same < 1000 || meant < 1500 {
		t.Errorf("%d pairs of terms are equal, %d of them put around a term, %d with a meaning, and %d are not", equal, same, meant, unequal)
	}
}

// TestPromise85OfSmallTerms compares all small terms with each other.
func TestPromise85OfSmallTerms(t *testing.T) {
	t.Parallel()
	small := (termGrammar{[]string{"n0", "x"}, []string{"b"}, []string{"(f b)"}}).upTo(4)
	var ends []string
	for _, m := range small {
		end, _ := m.simplifiedUpTo(mostTimes)
		ends = append(ends, end.markedText())
	}
	equal := 0
	for i, a := range small {
		for j, b := range small[:i+1] {
			wantEqual(t, a.text(), b.text(), ends[i] == ends[j])
			if i != j && ends[i] == ends[j] {
				equal++
			}
		}
	}
	t.Log(len(small), equal)
	if equal < 50 {
		t.Errorf("just %d pairs of small terms are equal", equal)
	}
	for _, m := range small {
		for _, s := range []string{"", "y ", "(return 0", "(f b)", "(return x1000)", strings.Repeat("x", impl.TextMax+1)} {
			wantEqual(t, m.text(), s, false)
		}
	}
}
