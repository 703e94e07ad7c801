package tests

import (
	"slices"
	"strconv"
	"strings"
	"testing"

	"loop.example/pushvalue/impl"
)

func TestLimitsOfSourcesByName(t *testing.T) {
	for s, typ := range sourcesAtLimits() {
		print, _, ok := impl.EvalName(s, 1, impl.FuelMax)
		want := map[string][]string{"b": {"(return 0)", "(return 1)", "fail"}, ">": {"lam"}, "*": {"both", "fail"}}[sourceTypesByText()[typ].head]
		if !ok || !slices.Contains(want, print) {
			t.Errorf("EvalName(%s) = %s, %v", quoted(s), print, ok)
		}
	}
	for _, s := range sourcesBeyondLimits() {
		wantNothingByName(t, s)
	}
	// Within these there is a type that is none of a source, however small that of the whole is.
	for _, s := range []string{"(fst (pair 0 (fail " + sourceTypeOf11 + ")))", "(app (lam x " + sourceTypeOf11 + " 0) (fail " + sourceTypeOf11 + "))", "(app (lam x b (fst (pair x (fail " + sourceTypeOf11 + ")))) 1)"} {
		wantNothingByName(t, s)
	}
}

// wantNamed wants that the name translation of an expression of a type is a term, with just so many parentheses within each other if these are given, or that it is none.
func wantNamed(t *testing.T, s, typ string, fine bool, nests int) {
	t.Helper()
	if got, ok := impl.SourceType(s); !ok || got != typ {
		t.Errorf("SourceType(%s) = %s, %v, want %s", quoted(s), got, ok, typ)
	}
	print, behind, ok := impl.EvalName(s, 1, impl.FuelMax)
	of, translated := impl.NameOf(s)
	if !ok || translated != fine || (of != "") != fine || fine && nests > 0 && nesting(of) != nests {
		t.Errorf("EvalName(%s) %v, NameOf %s, %v", quoted(s), ok, quoted(of), translated)
	}
	// A run puts suspended arguments for names, so that it may come to what is no term.
	end, left, _, ran := impl.Run(of, 1, impl.FuelMax)
	if ran && (end != print || left != behind) || !ran && fine && nests == 0 {
		t.Errorf("Run(NameOf(%s)) = %s, %d, %v, want %s, %d", quoted(s), end, left, ran, print, behind)
	}
}

// TestNameTranslationsWithParenthesesAtTheirLimit has a form around puts, so that their translation has parentheses within each other 100 times, and 101 times with one more.
func TestNameTranslationsWithParenthesesAtTheirLimit(t *testing.T) {
	for _, w := range []struct {
		form, inside, typ string
		puts              int
	}{
		{"...", "0", "b", 98}, {"...", "(get)", "b", 98}, {"...", "(fail b)", "b", 98}, {"...", "(fst (fail (* b b)))", "b", 96}, {"...", "(fst (fail (* b (> b b))))", "b", 94}, {"...", "(if 0 0 0)", "b", 97}, {"...", "(fst (pair 0 1))", "b", 97}, {"...", "(app (lam x b x) 0)", "b", 96},
		{"(lam x b ...)", "x", "(> b b)", 97}, {"(app (lam x b 0) ...)", "1", "b", 96}, {"(app (lam x b ...) 1)", "x", "b", 96}, {"(if ... 0 1)", "1", "b", 97}, {"(if 1 ... 1)", "1", "b", 96}, {"(if 0 1 ...)", "1", "b", 96},
		{"(pair ... 0)", "1", "(* b b)", 97}, {"(pair 0 ...)", "1", "(* b b)", 97}, {"(fst (pair ... 0))", "1", "b", 96}, {"(snd (pair 0 ...))", "1", "b", 96}, {"(lam x b (lam y b ...))", "y", "(> b (> b b))", 96},
	} {
		for more := range 2 {
			s := strings.Replace(w.form, "...", nest(w.puts+more, "(put ...)", w.inside), 1)
			wantNamed(t, s, w.typ, more == 0, 100)
		}
	}
}

// TestMeaningsWithParenthesesAtTheirLimit has expressions of which both translations, just one or none is a term.
func TestMeaningsWithParenthesesAtTheirLimit(t *testing.T) {
	for _, w := range []struct {
		inside             string
		puts               int
		value, name, meant bool
	}{
		{"1", 98, true, true, true}, {"1", 99, false, false, false}, {"(fst (fail (* b b)))", 96, true, true, true}, {"(fst (fail (* b b)))", 97, false, false, false}, {"(fst (pair 1 0))", 95, true, true, true}, {"(fst (pair 1 0))", 96, false, true, false}, {"(fst (pair 1 0))", 97, false, true, false}, {"(fst (pair 1 0))", 98, false, false, false},
	} {
		s := nest(w.puts, "(put ...)", w.inside)
		_, value := impl.ValueOf(s)
		name, ok := impl.NameOf(s)
		if value != w.value || ok != w.name || impl.TermKnown(name) != w.name {
			t.Errorf("ValueOf(%s) %v, NameOf %v, which has a meaning %v", quoted(s), value, ok, impl.TermKnown(name))
		}
		if !w.meant {
			wantNoMeans(t, s)
		} else if _, _, ok := impl.SourceMeans(s); !ok {
			t.Errorf("SourceMeans(%s) fails", quoted(s))
		}
	}
}

// TestNameTypesAtTheirLimit has types whose translations have at most 12 atoms, and such with 13 and more; as the type of an argument, one atom more is needed for its suspension.
func TestNameTypesAtTheirLimit(t *testing.T) {
	for typ, atoms := range map[string]int{
		"(* b (* b (* b b)))": 11, "(* (* b b) (* b b))": 11, "(> (> b b) b)": 10, "(> b (> b b))": 10, "(> (* b b) b)": 9, "(* b (* b b))": 8,
		"(> (* b b) (* b b))": 12, "(* (* b b) (> b b))": 12, "(* b (* b (> b b)))": 12, "(* (* b (> b b)) b)": 12, "(> b (* b (* b b)))": 12, "(> (* b (* b b)) b)": 12,
		"(* (> b b) (> b b))": 13, "(* b (> (> b b) b))": 13, "(> b (> (* b b) b))": 13, "(> (> b b) (* b b))": 13, "(* b (> b (> b b)))": 13, "(* b (* b (* b (* b b))))": 14, "(> b (> b (> b b)))": 14, "(> (> b b) (> b b))": 14, sourceTypeOf9: 15,
	} {
		of, ok := impl.NameType(typ)
		if fine := atoms <= impl.AtomsMax; len(strings.Fields(nameTypeMade(typ))) != atoms || ok != fine || (of != "") != fine {
			t.Errorf("NameType(%s) = %s, %v, which has %d atoms", typ, of, ok, len(strings.Fields(nameTypeMade(typ))))
		}
		wantNamed(t, "(fail "+typ+")", typ, atoms <= 12, 0)
		wantNamed(t, "(lam x "+typ+" 0)", "(> "+typ+" b)", atoms <= 11, 0)
		wantNamed(t, "(if 1 0 (app (lam x "+typ+" 0) (fail "+typ+")))", "b", atoms <= 11, 0)
	}
}

// TestNameTranslationsWithoutAType has expressions within which there are types with too large translations. Where these do not stand in its text, the translation is a term, but has no type.
func TestNameTranslationsWithoutAType(t *testing.T) {
	for _, w := range []struct {
		s, typ string
		typed  bool
	}{
		{"(lam x b (lam y b x))", "(> b (> b b))", true}, {"(lam x b (lam y b (lam z b x)))", "(> b (> b (> b b)))", false},
		{"(app (app (lam x b (lam y b x)) 1) 0)", "b", true}, {"(app (app (app (lam x b (lam y b (lam z b x))) 1) 0) 0)", "b", false},
		{"(fst (pair 1 (lam x b (pair x x))))", "b", true}, {"(fst (pair 1 (lam x b (lam y b y))))", "b", false}, {"(fst (pair (pair 0 1) (pair 0 1)))", "(* b b)", true}, {"(fst (pair (pair 0 1) (lam x b x)))", "(* b b)", true}, {"(fst (pair (lam y b y) (lam x b x)))", "(> b b)", false},
		{"(app (lam f (> b b) (app f 1)) (lam x b x))", "b", true}, {"(app (lam f (> b (> b b)) 1) (lam x b (lam y b x)))", "b", false}, {"(app (lam p (* b (* b b)) (fst p)) (pair 1 (pair 0 0)))", "b", true}, {"(lam p (* b (* b (* b b))) (fst p))", "(> (* b (* b (* b b))) b)", false},
		// The argument itself has a type, but what is suspended has none.
		{"(fst (fail (* b (* b (> b b)))))", "b", true}, {"(app (lam x b x) (fst (fail (* b (* b (> b b))))))", "b", true},
	} {
		wantNamed(t, w.s, w.typ, true, 0)
		of, _ := impl.NameOf(w.s)
		if impl.TermTyped(of) != w.typed {
			t.Errorf("NameOf(%s) = %s has a type %v", w.s, of, impl.TermTyped(of))
		}
		if !w.typed {
			wantNoMeans(t, w.s)
		}
	}
}

// TestManyNewNames has a translation in which all atoms but one take a new name, up to v149.
func TestManyNewNames(t *testing.T) {
	s := strings.ReplaceAll(strings.ReplaceAll(ifOfAtoms(impl.SourceMax-1), "1", "(get)"), "0", "(get)")
	of, ok := impl.NameOf("(put " + s + ")")
	if !ok || strings.Count(of, "(get ")+strings.Count(of, "(put ")+strings.Count(of, "(if ") != impl.SourceMax {
		t.Errorf("NameOf(%s) = %s, %v", s, of, ok)
	}
	for n := range impl.SourceMax {
		if name := "v" + strconv.Itoa(n); strings.Count(of, " "+name+" ") < 1 {
			t.Errorf("%s is not in %s", name, of)
		}
	}
	if strings.Contains(of, "v"+strconv.Itoa(impl.SourceMax)) || impl.TermSize(of) < 500 {
		t.Errorf("NameOf(%s) has %d atoms: %s", s, impl.TermSize(of), of)
	}
	if value, name, ok := impl.SourceMeans("(put " + s + ")"); !ok || value != name {
		t.Errorf("SourceMeans(%s) = %d, %d, %v", s, value, name, ok)
	}
}

// costlyByName returns an expression that comes to 0 and takes so many evaluations by name, at least 4999: it has a function that is applied 29 times and does 172 evaluations each time, as each of 4 functions applies the one ahead of it twice.
func costlyByName(cost int) string {
	// The first function takes 3 for app, f and lam, 3 for put, and 1 for x beside its argument. Each further one takes 3, twice that of the one ahead of it, and 1 for x.
	each := 3 + 3 + 1
	for range 4 {
		each = 3 + 2*each + 1
	}
	// 2 for each of 5 functions, and 1 for each put and 0
	puts := cost - (2*5 + 29*each + 1)
	return "(app (lam f (> b b) " + nest(4, twice, nest(puts, "(put ...)", nest(29, "(app f ...)", "0"))) + ") (lam x b (put (put (put x)))))"
}

func TestNameFuelsAtTheirLimit(t *testing.T) {
	for more := -1; more <= 2; more++ {
		cost := impl.FuelMax + more
		s := costlyByName(cost)
		for bit := range 2 {
			byName.wantEnd(t, s, bit, sourceEnd{"(return 0)", 0, cost})
			if agrees := impl.NameAgrees(s, bit); agrees != (cost <= impl.FuelMax) {
				t.Errorf("NameAgrees(%s, %d) = %v", s, bit, agrees)
			}
		}
	}
}

// TestAgreementBeyondTheFuel has expressions for which the fuel does not suffice by value or by name, as they do thousands of times more.
func TestAgreementBeyondTheFuel(t *testing.T) {
	around := func(s string) string {
		return "(app (lam f (> b b) " + nest(7, thrice, s) + ") (lam x b x))"
	}
	for s, want := range map[string][2]bool{
		around("(app f 0)"): {false, false}, around("(app f (fail b))"): {true, false}, around("(app (lam x b 0) (app f 0))"): {false, true}, around("(fst (pair 1 (app f 0)))"): {false, true}, around("(if 1 0 (app f 0))"): {true, true}, around("(fail b)"): {true, true},
		"(app (lam y b 0) " + around("(app f 0)") + ")": {false, true}, "(app (lam y b y) " + around("(app f 0)") + ")": {false, false}, "(app (lam y b (if 1 y 0)) " + around("(if 0 (app f 0) 1)") + ")": {true, true},
	} {
		for bit := range 2 {
			_, _, value := impl.EvalValue(s, bit, impl.FuelMax)
			_, _, name := impl.EvalName(s, bit, impl.FuelMax)
			if value != want[0] || name != want[1] || impl.NameAgrees(s, bit) != (value && name) {
				t.Errorf("EvalValue(%s, %d) %v, EvalName %v, NameAgrees %v", s, bit, value, name, impl.NameAgrees(s, bit))
			}
		}
		wantNoMeans(t, s)
	}
}

// TestAgreementAtTheFuelByValue has an argument that is used by value alone, where a function is applied 13 times and does 379 evaluations each time.
func TestAgreementAtTheFuelByValue(t *testing.T) {
	for more := -1; more <= 1; more++ {
		argument := nest(22+more, "(put ...)", nest(13, "(app f ...)", "0"))
		s := "(app (lam f (> b b) " + nest(6, twice, "(app (lam y b 0) "+argument+")") + ") (lam x b x))"
		// 3 for each of 7 functions and for the one that does not use its argument, 2 and 379 for each time that the last one is applied, and 1 for each put and 0
		cost := 3*7 + 3 + 13*(2+379) + (22 + more) + 1
		if cost != impl.FuelMax+more {
			t.Errorf("%s takes %d", s, cost)
		}
		byValue.wantEnd(t, s, 0, sourceEnd{"0", 0, cost})
		byName.wantEnd(t, s, 0, sourceEnd{"(return 0)", 0, 2*7 + 3})
		if agrees := impl.NameAgrees(s, 0); agrees != (cost <= impl.FuelMax) {
			t.Errorf("NameAgrees(%s, 0) = %v", s, agrees)
		}
	}
}

// TestArgumentsWithinArguments has arguments that use another one twice, which does so with the next one, and so on.
func TestArgumentsWithinArguments(t *testing.T) {
	const twice = "(app (lam x b (if x x x)) ...)"
	for n := range 19 {
		s := nest(n, twice, "(get)")
		// 3 for app, lam and if, 1 for each x, and twice that of the argument
		cost := 1
		for range n {
			cost = 3 + 2*(1+cost)
		}
		byName.wantEnd(t, s, 0, sourceEnd{"(return 0)", 0, cost})
		byName.wantEnd(t, s, 1, sourceEnd{"(return 1)", 1, cost})
		if _, ok := impl.SourceType(s); !ok {
			t.Errorf("%s has no type", s)
		}
	}
}
