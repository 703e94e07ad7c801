package tests

import (
	"strconv"
	"strings"
	"testing"

	"loop.example/pushvalue/impl"
)

// Source types have an odd number of atoms.
const (
	sourceTypeOf7  = "(* b (* b (> b b)))"
	sourceTypeOf9  = "(* b (* (> b b) (* b b)))"
	sourceTypeOf11 = "(* b (* (> b b) (* b (> b b))))"
	sourceTypeOf13 = "(* b (* b (* (> b b) (* b (> b b)))))"
)

// ifOfAtoms returns an expression of b that comes to 1, or to 0 if it has 2 or 3 atoms, and has so many atoms, with few parentheses within each other.
func ifOfAtoms(n int) string {
	if n < 4 {
		return []string{"", "1", "(put 0)", "(put (put 0))"}[n]
	}
	third := (n - 1) / 3
	return "(if " + ifOfAtoms(third) + " " + ifOfAtoms(third) + " " + ifOfAtoms(n-1-2*third) + ")"
}

// sourcesAtLimits returns source expressions with their types of which one number is just the greatest.
func sourcesAtLimits() map[string]string {
	return map[string]string{
		ifOfAtoms(impl.SourceMax): "b", "(pair (get) " + ifOfAtoms(impl.SourceMax-2) + ")": "(* b b)", "(lam x b " + ifOfAtoms(impl.SourceMax-3) + ")": "(> b b)", "(lam x (* b b) " + ifOfAtoms(impl.SourceMax-5) + ")": "(> (* b b) b)", "(if 1 (fail (* b b)) (pair 0 " + ifOfAtoms(impl.SourceMax-8) + "))": "(* b b)",
		nest(100, "(put ...)", "0"): "b", nest(99, "(put ...)", "(get)"): "b", nest(99, "(put ...)", "(fail b)"): "b", nest(97, "(put ...)", "(fst (fail (* b b)))"): "b", "(lam x b " + nest(99, "(put ...)", "x") + ")": "(> b b)", "(pair 1 " + nest(99, "(put ...)", "1") + ")": "(* b b)", nest(20, "(if 1 0 ...)", nest(80, "(put ...)", "1")): "b",
		"(fail " + sourceTypeOf11 + ")": sourceTypeOf11, "(fst (fail " + sourceTypeOf11 + "))": "b", "(lam x " + sourceTypeOf9 + " 0)": "(> " + sourceTypeOf9 + " b)",
	}
}

// sourcesBeyondLimits returns texts that are no source expressions as one number of them is greater by 1 than that of one, or by 2 for the atoms of types.
func sourcesBeyondLimits() []string {
	return []string{
		ifOfAtoms(impl.SourceMax + 1), "(pair (get) " + ifOfAtoms(impl.SourceMax-1) + ")", "(lam x b " + ifOfAtoms(impl.SourceMax-2) + ")", "(lam x (* b b) " + ifOfAtoms(impl.SourceMax-4) + ")", "(if 1 (fail (* b b)) (pair 0 " + ifOfAtoms(impl.SourceMax-7) + "))", ifOfAtoms(4 * impl.SourceMax), ifOfAtoms(impl.TermMax + 1),
		nest(101, "(put ...)", "0"), nest(101, "(put ...)", "x"), nest(100, "(put ...)", "(get)"), nest(100, "(put ...)", "(fail b)"), nest(98, "(put ...)", "(fst (fail (* b b)))"), "(lam x b " + nest(100, "(put ...)", "x") + ")", "(pair 1 " + nest(100, "(put ...)", "1") + ")", nest(20, "(if 1 0 ...)", nest(81, "(put ...)", "1")), nest(149, "(put ...)", "0"),
		"(fail " + sourceTypeOf13 + ")", "(fst (fail " + sourceTypeOf13 + "))", "(lam x " + sourceTypeOf13 + " 0)",
	}
}

func TestLimitsOfSources(t *testing.T) {
	for s, want := range sourcesAtLimits() {
		atoms, nests := len(strings.Fields(s)), nesting(s)
		if atoms != impl.SourceMax && nests != 100 && atoms > 14 {
			t.Errorf("%s has %d atoms and parentheses within each other %d times", quoted(s), atoms, nests)
		}
		if free, ok := impl.SourceFree(s); !ok || len(free) > 0 {
			t.Errorf("SourceFree(%s) = %q, %v", quoted(s), free, ok)
		}
		if typ, ok := impl.SourceType(s); !ok || typ != want {
			t.Errorf("SourceType(%s) = %s, %v, want %s", quoted(s), typ, ok, want)
		}
		if print, _, ok := impl.EvalValue(s, 1, impl.FuelMax); !ok || print == "" {
			t.Errorf("EvalValue(%s) = %s, %v", quoted(s), print, ok)
		}
	}
	for _, s := range sourcesBeyondLimits() {
		if free, ok := impl.SourceFree(s); ok || len(free) > 0 || impl.SourcePure(s) {
			t.Errorf("SourceFree(%s) = %q, %v, SourcePure %v", quoted(s), free, ok, impl.SourcePure(s))
		}
		wantNoSourceType(t, s)
	}
	for _, n := range []int{1, 4, impl.SourceMax - 1, impl.SourceMax} {
		if s := ifOfAtoms(n); len(strings.Fields(s)) != n {
			t.Errorf("ifOfAtoms(%d) = %s", n, s)
		}
	}
}

// TestSourceTypesAtTheirLimit has types that stand in no text, or just in one that is evaluated.
func TestSourceTypesAtTheirLimit(t *testing.T) {
	for s, want := range map[string]string{
		"(pair 0 (fail " + sourceTypeOf9 + "))": "(* b " + sourceTypeOf9 + ")", "(pair 0 (fail " + sourceTypeOf11 + "))": "", "(pair (fail " + sourceTypeOf11 + ") 0)": "", "(pair (fail " + sourceTypeOf7 + ") (fail (* b b)))": "(* " + sourceTypeOf7 + " (* b b))", "(pair (fail " + sourceTypeOf9 + ") (fail (> b b)))": "",
		"(lam x " + sourceTypeOf9 + " 0)": "(> " + sourceTypeOf9 + " b)", "(lam x " + sourceTypeOf11 + " 0)": "", "(lam x b (fail " + sourceTypeOf9 + "))": "(> b " + sourceTypeOf9 + ")", "(lam x b (fail " + sourceTypeOf11 + "))": "", "(lam x " + sourceTypeOf7 + " (lam y b 0))": "(> " + sourceTypeOf7 + " (> b b))", "(lam x " + sourceTypeOf9 + " (lam y b 0))": "",
		// the type of the whole is small
		"(fst (pair 0 (fail " + sourceTypeOf9 + ")))": "b", "(fst (pair 0 (fail " + sourceTypeOf11 + ")))": "", "(snd (pair (fail " + sourceTypeOf11 + ") 0))": "", "(fst (fst (pair (pair 0 (fail " + sourceTypeOf7 + ")) 1)))": "b", "(fst (fst (pair (pair 0 (fail " + sourceTypeOf9 + ")) 1)))": "",
		"(app (lam x " + sourceTypeOf9 + " 0) (fail " + sourceTypeOf9 + "))": "b", "(app (lam x " + sourceTypeOf11 + " 0) (fail " + sourceTypeOf11 + "))": "", "(fst (app (lam x b (fail " + sourceTypeOf9 + ")) 1))": "b", "(fst (app (lam x b (fail " + sourceTypeOf11 + ")) 1))": "", "(put (if 1 0 (fst (pair 0 (fail " + sourceTypeOf11 + ")))))": "", "(app (lam x b (fst (pair x (fail " + sourceTypeOf11 + ")))) 1)": "",
		"(app (app (lam x b (lam y " + sourceTypeOf7 + " 0)) 0) (fail " + sourceTypeOf7 + "))": "b", "(app (app (lam x b (lam y " + sourceTypeOf9 + " 0)) 0) (fail " + sourceTypeOf9 + "))": "",
		"(if (fst (fail " + sourceTypeOf11 + ")) (fst (fail " + sourceTypeOf11 + ")) (fst (fail " + sourceTypeOf11 + ")))": "b",
	} {
		if want == "" {
			wantNoSourceType(t, s)
		} else if typ, ok := impl.SourceType(s); !ok || typ != want {
			t.Errorf("SourceType(%s) = %s, %v, want %s", s, typ, ok, want)
		}
		if _, ok := impl.SourceFree(s); !ok {
			t.Errorf("%s is no source expression", s)
		}
	}
}

// wantTranslated wants that the translation of an expression of a type is a term, with just so many parentheses within each other if these are given, or that it is none.
func wantTranslated(t *testing.T, s, typ string, fine bool, nests int) {
	t.Helper()
	if got, ok := impl.SourceType(s); !ok || got != typ {
		t.Errorf("SourceType(%s) = %s, %v, want %s", quoted(s), got, ok, typ)
	}
	print, behind, ok := impl.EvalValue(s, 1, impl.FuelMax)
	of, translated := impl.ValueOf(s)
	if !ok || translated != fine || (of != "") != fine || fine && nests > 0 && nesting(of) != nests {
		t.Errorf("EvalValue(%s) %v, ValueOf %s, %v", quoted(s), ok, quoted(of), translated)
	}
	if print != "fail" {
		print = "(return " + print + ")"
	}
	// A run puts suspended functions for names, so that it may come to what is no term.
	end, left, _, ran := impl.Run(of, 1, impl.FuelMax)
	if ran && (end != print || left != behind) || !ran && fine && nests == 0 {
		t.Errorf("Run(ValueOf(%s)) = %s, %d, %v, want %s, %d", quoted(s), end, left, ran, print, behind)
	}
}

// TestTranslationsWithParenthesesAtTheirLimit has a form around puts, so that their translation has parentheses within each other 100 times, and 101 times with one more.
func TestTranslationsWithParenthesesAtTheirLimit(t *testing.T) {
	for _, w := range []struct {
		form, inside, typ string
		puts              int
	}{
		{"...", "0", "b", 98}, {"...", "(get)", "b", 98}, {"...", "(fail b)", "b", 98}, {"...", "(fst (fail (* b b)))", "b", 96}, {"...", "(fst (fail (* b (> b b))))", "b", 93}, {"...", "(if 0 0 0)", "b", 97}, {"...", "(fst (pair 0 1))", "b", 95}, {"...", "(app (lam x b x) 0)", "b", 95},
		{"(lam x b ...)", "x", "(> b b)", 95}, {"(app (lam x b 0) ...)", "1", "b", 96}, {"(app (lam x b ...) 1)", "x", "b", 94}, {"(if ... 0 1)", "1", "b", 97}, {"(if 1 ... 1)", "1", "b", 96}, {"(if 0 1 ...)", "1", "b", 96},
		{"(pair ... 0)", "1", "(* b b)", 97}, {"(pair 0 ...)", "1", "(* b b)", 96}, {"(fst (pair ... 0))", "1", "b", 96}, {"(snd (pair 0 ...))", "1", "b", 95}, {"(lam x b (lam y b ...))", "y", "(> b (> b b))", 92},
	} {
		for more := range 2 {
			s := strings.Replace(w.form, "...", nest(w.puts+more, "(put ...)", w.inside), 1)
			wantTranslated(t, s, w.typ, more == 0, 100)
		}
	}
}

// TestTranslationsOfTypesAtTheirLimit has types whose translations have at most 11 atoms, and such with 13 and more.
func TestTranslationsOfTypesAtTheirLimit(t *testing.T) {
	for typ, atoms := range map[string]int{
		"(* b (* b (* b (* b (* b b)))))": 11, "(* b (* b (* b (> b b))))": 11, "(* (> b b) (> b b))": 11, "(> b (* b (> b b)))": 11, "(* b (> b (> b b)))": 11, "(> (> b b) (* b b))": 11, "(> (* b b) (> b b))": 11, sourceTypeOf9: 11, sourceTypeOf7: 9, "(> (> b b) b)": 9,
		"(> (> b b) (> b b))": 13, "(> b (> b (> b b)))": 13, "(> (> (> b b) b) b)": 13, "(> (> b (> b b)) b)": 13, "(* (> b b) (* b (> b b)))": 13, "(> (* b (* b b)) (> b b))": 13, "(* b (* b (* b (* b (> b b)))))": 13, "(* b " + sourceTypeOf9 + ")": 13, sourceTypeOf11: 15,
	} {
		of, ok := impl.ValueType(typ)
		if fine := atoms < 13; len(strings.Fields(valueTypeMade(typ))) != atoms || ok != fine || (of != "") != fine {
			t.Errorf("ValueType(%s) = %s, %v, which has %d atoms", typ, of, ok, len(strings.Fields(valueTypeMade(typ))))
		}
		wantTranslated(t, "(fail "+typ+")", typ, atoms < 13, 0)
		if len(strings.Fields(typ)) < 11 {
			wantTranslated(t, "(lam x "+typ+" 0)", "(> "+typ+" b)", atoms < 13, 0)
		}
	}
}

// TestTranslationsWithoutAType has expressions within which there are types with too large translations. Where these do not stand in its text, the translation is a term, but has no type.
func TestTranslationsWithoutAType(t *testing.T) {
	for _, w := range []struct {
		s, typ string
		typed  bool
	}{
		{"(lam x b (lam y b x))", "(> b (> b b))", true}, {"(lam x b (lam y b (lam z b x)))", "(> b (> b (> b b)))", false},
		{"(app (app (lam x b (lam y b x)) 1) 0)", "b", true}, {"(app (app (app (lam x b (lam y b (lam z b x))) 1) 0) 0)", "b", false},
		{"(fst (pair 1 (lam x b (lam y b y))))", "b", true}, {"(fst (pair 1 (lam x b (lam y b (pair x y)))))", "b", false},
		{"(app (lam f (> b b) (app f 1)) (lam x b x))", "b", true}, {"(app (lam f (> b (> b b)) 1) (lam x b (lam y b x)))", "b", false}, {"(app (lam f (> b b) (lam x b (app f x))) (lam x b (put x)))", "(> b b)", false},
	} {
		wantTranslated(t, w.s, w.typ, true, 0)
		of, _ := impl.ValueOf(w.s)
		if impl.TermTyped(of) != w.typed {
			t.Errorf("ValueOf(%s) = %s has a type %v", w.s, of, impl.TermTyped(of))
		}
	}
}

// treeOfParts returns an expression of b with so many uses of a name of nested pairs, each taken out of four of them.
func treeOfParts(uses int) *madeTerm {
	if uses == 1 {
		return inside(4, inFst, madeAtom("v7"))
	}
	return madeOf("fst", madeOf("pair", treeOfParts(uses/2), treeOfParts(uses-uses/2)))
}

// TestLargeTranslations has translations nearly as large as they can be, with names up to v311.
func TestLargeTranslations(t *testing.T) {
	const typ = "(* (* (* (* b b) b) b) b)"
	simple := inside(4, func(m *madeTerm) *madeTerm { return madeOf("pair", m, madeAtom("0")) }, madeAtom("1"))
	for uses, last := range map[int]string{1: "v22", 2: "v39", 18: "v311"} {
		m := madeOf("app", madeOf("lam", ":v7", typ, treeOfParts(uses)), simple)
		s := m.text()
		of, ok := impl.ValueOf(s)
		if want := valueTranslator.made(m).text(); !keepsSourceLimits(m) || !ok || of != want {
			t.Errorf("ValueOf(%s) = %s, %v, want %s", s, of, ok, want)
		}
		next := "v" + strconv.Itoa(1+number(last))
		if !strings.Contains(of, last+" ") || strings.Contains(of, next+" ") || strings.Count(of, " v7 ") != 1 {
			t.Errorf("ValueOf(%s) = %s, want names up to %s", s, of, last)
		}
		byValue.wantEnd(t, s, 1, endFrom(m, 1))
	}
	m := madeOf("app", madeOf("lam", ":v7", typ, treeOfParts(18)), simple)
	of, _ := impl.ValueOf(m.text())
	if m.atoms() != 145 || impl.TermSize(of) < 900 || len(of) < 5000 {
		t.Errorf("a translation of %d atoms and %d bytes, of an expression of %d atoms", impl.TermSize(of), len(of), m.atoms())
	}
}

// number returns the number behind the letter of a name.
func number(name string) int {
	n, _ := strconv.Atoi(name[1:])
	return n
}

// costlyByValue returns an expression that comes to 0 and takes so many evaluations by value, at least 4975: it has a function that is applied 13 times and does 379 evaluations each time, as each of 6 functions applies the one ahead of it twice.
func costlyByValue(cost int) string {
	// 3 for each of 7 functions, 2 and 379 for each time that the last one is applied, and 1 for each put and 0
	puts := cost - (3*7 + 13*(2+379) + 1)
	return "(app (lam f (> b b) " + nest(6, twice, nest(puts, "(put ...)", nest(13, "(app f ...)", "0"))) + ") (lam x b x))"
}

// These bind a function that applies the one ahead of it twice or three times.
const (
	twice  = "(app (lam f (> b b) ...) (lam x b (app f (app f x))))"
	thrice = "(app (lam f (> b b) ...) (lam x b (app f (app f (app f x)))))"
)

func TestFuelsAtTheirLimit(t *testing.T) {
	for more := -1; more <= 2; more++ {
		cost := impl.FuelMax + more
		for bit := range 2 {
			byValue.wantEnd(t, costlyByValue(cost), bit, sourceEnd{"0", 0, cost})
		}
	}
	// These take thousands of times more.
	for _, s := range []string{nest(8, thrice, "(app f 0)"), nest(8, thrice, "(app f (fail b))"), nest(9, twice, "(app f (app f (app f 0)))")} {
		s = "(app (lam f (> b b) " + s + ") (lam x b x))"
		if typ, ok := impl.SourceType(s); !ok || typ != "b" {
			t.Errorf("SourceType(%s) = %s, %v", s, typ, ok)
		}
		if strings.Contains(s, "fail") {
			byValue.wantEnd(t, s, 1, sourceEnd{"fail", 0, 3*9 + 3})
			continue
		}
		for _, fuel := range []int{0, 1, 4999, impl.FuelMax} {
			byValue.wantNone(t, s, 0, fuel)
		}
	}
}

// TestPrintsOfAllTypes has a value of each type. The longest print has 46 bytes, so that none comes near TextMax.
func TestPrintsOfAllTypes(t *testing.T) {
	longest := 0
	for _, w := range sourceTypes() {
		s, _ := impl.SourceDefault(w.text)
		print, behind, ok := impl.EvalValue(s, 1, impl.FuelMax)
		if want := printOfSimple(w.text); !ok || print != want || behind != 1 {
			t.Errorf("EvalValue(%s, 1) = %s, %d, %v, want %s", s, print, behind, ok, want)
		}
		longest = max(longest, len(print))
	}
	if longest != 46 {
		t.Errorf("the longest print has %d bytes", longest)
	}
}

// printOfSimple returns the print of the expression of SourceDefault.
func printOfSimple(typ string) string {
	w := sourceTypesByText()[typ]
	switch w.head {
	case "*":
		return inParentheses("pair", printOfSimple(w.first), printOfSimple(w.second))
	case ">":
		return "thunk"
	}
	return "0"
}
