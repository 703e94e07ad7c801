package tests

import (
	"math"
	"slices"
	"strings"
	"testing"

	"loop.example/pushvalue/impl"
)

// Each test of this file holds a promise of chapter 7 against source expressions whose parts are known, against all source types, and against invalid arguments.

// noFuels returns numbers that are no fuels.
func noFuels() []int {
	return []int{-1, -2, -impl.FuelMax, impl.FuelMax + 1, impl.FuelMax + 2, 1 << 32, math.MinInt, math.MaxInt}
}

// noSources returns texts that are no source expressions.
func noSources() []string {
	texts := []string{
		"", " ", "(", ")", "()", "( )", "(())", "*", ">", "&", "A", "X", "2", "00", "01", "10", "-1", "é", "\xff", "x\x00", "(get)\x00",
		// names that are too long or wrong, and words of the language as names
		"x1000", "xx", "x1x", "1x", "x-1", "x_1", "x 1", "x ", " x", "x\n", "get", "put", "fail", "lam", "app", "if", "pair", "fst", "snd", "bit", "name", "(put get)", "(put fst)", "(put x1000)", "(pair if 0)", "(app lam 0)", "(if get 0 1)",
		"(lam x1000 b 0)", "(lam xx b 0)", "(lam 0 b 0)", "(lam 1 b 0)", "(lam if b 0)", "(lam get b 0)", "(lam (x) b 0)", "(lam (get) b 0)", "(lam X b 0)", "(lam  b 0)",
		// no types, and types that are none of a source
		"(lam x c 0)", "(lam x x 0)", "(lam x 0 0)", "(lam x (b) 0)", "(lam x (f b) 0)", "(lam x (u (f b)) 0)", "(lam x (> b (f b)) 0)", "(lam x (& b b) 0)", "(lam x (* b) 0)", "(lam x (* b b b) 0)", "(lam x (> b) 0)", "(lam x * 0)", "(lam x (get) 0)", "(lam x (* b (u (f b))) 0)",
		"(fail 0)", "(fail x)", "(fail c)", "(fail (f b))", "(fail (u (f b)))", "(fail (> b (f b)))", "(fail (& b b))", "(fail (get))", "(fail (fail b))", "(fail (* b))", "(fail (* b b b))", "(fail b b)", "(fail * b b)", "b b", "(* b b)", "(> b b)", "(f b)",
		// terms that are no expressions
		"(return 0)", "(thunk 0)", "(thunk (return 0))", "(force x)", "(to 0 x x)", "(to (get) x x)", "(split x y z y)", "(both 0 1)", "(try 0 1)", "(get x x)", "(get x (return x))", "(put 0 (return 0))", "(lam x b (return x))", "(app (lam x b x) (return 0))", "(put 0 1)", "(get 0)", "(get get)", "(get (get))",
		// wrong signs
		"(x)", "(0)", "((get))", "((get) 0)", "((put) 0)", "((put 0))", "(name x)", "(bit 0)", "(Get)", "(get", "get)", "(get))", "((get)", "(get)(get)", "(get) (get)", "( get)", "(get )", "( get )", "(\tget)", " (get)", "(get) ", "(get)\n",
		"(put  0)", "( put 0)", "(put 0 )", "(put\t0)", "(put\n0)", "(put,0)", "(put(get))", "(pair (get)(get))", "(pair  0 1)", "(pair 0  1)", "[put 0]", "(put é)", "(put \xff)", "（get）", "{get}", "(pair 0 1", "pair 0 1)", "pair 0 1", "(pair 0 1))", "(lam x  b 0)", "(lam x b  0)",
	}
	for _, form := range formsOfSources {
		words := simplestSource(form.head, form.signs)
		for i := range words {
			if form.head != "get" {
				texts = append(texts, inParentheses(slices.Concat(words[:i], words[i+1:])...))
			}
			texts = append(texts, inParentheses(slices.Concat(words[:i+1], words[i:])...))
		}
		texts = append(texts, inParentheses(append(words, "0")...), inParentheses(append(words, "(get)")...), inParentheses(append(words, "b")...))
	}
	return slices.Concat(texts, sourcesBeyondLimits(), longTexts())
}

// simplestSource returns the words of a simple expression with a head.
func simplestSource(head, signs string) []string {
	words := []string{head}
	for _, sign := range signs {
		words = append(words, map[rune]string{'e': "z", 'x': "x", 'S': "b"}[sign])
	}
	return words
}

// noSourceTypes returns texts that are no source types, types of chapter 1 among them.
func noSourceTypes() []string {
	texts := []string{"(> b (f b))", "(> (u (f b)) b)", "(* b (u (f b)))", "(u (> b (f b)))", "(& b b)", "(f b)", "(f (> b b))", "(u b)", "(b b b)", "(> > b)", "(* * b)", "(> b b b)", "(* b)", "(>  b b)", "(> b b )", "( > b b)", "(> b  b)", "(>b b)", "(* b(* b b))", "(> b b))", "((> b b)", "(> b 0)", "(> x b)", "((>) b b)", "((*) b b)", "(-> b b)", "(get)", "(fail b)", "(lam x b x)"}
	for i, w := range allTypes() {
		if i%20 == 0 {
			texts = append(texts, w.text)
		}
	}
	texts = append(texts, noTypes()...)
	for i, w := range sourceTypes() {
		if i%4 == 0 {
			texts = append(texts, w.text+" ", w.text+"b", w.text[:len(w.text)-1], "("+w.text+")", "(* b (* b (* b "+w.text+")))", "(> (> b b) (> "+w.text+" (* b b)))")
		}
	}
	return slices.DeleteFunc(texts, func(s string) bool { return sourceTypesByText()[s].text != "" })
}

// wantNoSourceType wants that an expression has no source type, so that nothing is told of it by value.
func wantNoSourceType(t *testing.T, s string) {
	t.Helper()
	typ, typed := impl.SourceType(s)
	of, translated := impl.ValueOf(s)
	if typed || typ != "" || translated || of != "" {
		t.Errorf("%s: SourceType %s, %v, ValueOf %s, %v", quoted(s), typ, typed, of, translated)
	}
	for _, fuel := range []int{0, 1, 50, impl.FuelMax} {
		byValue.wantNone(t, s, 0, fuel)
		byValue.wantNone(t, s, 1, fuel)
	}
}

// An evaluation is EvalValue or EvalName.
type evaluation struct {
	name string
	of   func(s string, bit, fuel int) (string, int, bool)
}

var byValue = evaluation{"EvalValue", impl.EvalValue}

func (e evaluation) wantNone(t *testing.T, s string, bit, fuel int) {
	t.Helper()
	if print, behind, ok := e.of(s, bit, fuel); ok || print != "" || behind != 0 {
		t.Errorf("%s(%s, %d, %d) = %s, %d, %v", e.name, quoted(s), bit, fuel, print, behind, ok)
	}
}

// wantEnd wants that an expression comes to an end from a bit with just so much fuel, and with more.
func (e evaluation) wantEnd(t *testing.T, s string, bit int, want sourceEnd) {
	t.Helper()
	for _, fuel := range []int{0, 1, want.cost - 1, want.cost, want.cost + 1, impl.FuelMax - 1, impl.FuelMax} {
		if !want.suffices(fuel) {
			e.wantNone(t, s, bit, fuel)
			continue
		}
		if print, behind, ok := e.of(s, bit, fuel); !ok || print != want.print || behind != want.bit {
			t.Errorf("%s(%s, %d, %d) = %s, %d, %v, want %s, %d", e.name, quoted(s), bit, fuel, print, behind, ok, want.print, want.bit)
		}
	}
}

// wantArguments wants that an expression with a type comes to an end for bits and fuels alone.
func (e evaluation) wantArguments(t *testing.T, s string) {
	t.Helper()
	for _, fuel := range noFuels() {
		e.wantNone(t, s, 0, fuel)
		e.wantNone(t, s, 1, fuel)
	}
	for _, bit := range noBits() {
		e.wantNone(t, s, bit, impl.FuelMax)
		e.wantNone(t, s, bit, 1)
	}
}

func TestPromise63TypesOfSources(t *testing.T) {
	t.Parallel()
	translated, large := 0, 0
	for _, w := range typedSources() {
		if typ, ok := impl.SourceType(w.text); !ok || typ != w.typ {
			t.Fatalf("SourceType(%s) = %s, %v, want %s", w.text, typ, ok, w.typ)
		}
		simple, _ := impl.SourceDefault(w.typ)
		if typ, ok := impl.SourceType(simple); !ok || typ != w.typ {
			t.Fatalf("SourceType(%s) = %s, %v, want %s", simple, typ, ok, w.typ)
		}
		of, ok := impl.ValueOf(w.text)
		valueType, typed := impl.ValueType(w.typ)
		if !ok || !typed {
			continue
		}
		// A translation has no type if that of a part is too large.
		if hasLargeTranslation(w.term, madeEnv{}) {
			large++
			if impl.TermTyped(of) {
				t.Fatalf("ValueOf(%s) = %s has a type", w.text, of)
			}
			continue
		}
		translated++
		if typ, ok := impl.TermType(nil, nil, of); !ok || typ != "(f "+valueType+")" {
			t.Fatalf("ValueOf(%s) = %s of %s, want (f %s)", w.text, of, typ, valueType)
		}
	}
	t.Log(translated, large)
	if translated < 2500 || large < 1000 {
		t.Errorf("just %d translations with a type and %d with too large ones inside", translated, large)
	}
	for _, s := range untypedSources() {
		wantNoSourceType(t, s)
	}
	for _, s := range noSources() {
		wantNoSourceType(t, s)
	}
}

// hasLargeTranslation reports whether the value translation of the type of an expression or of one within it has too many atoms.
func hasLargeTranslation(m *madeTerm, e madeEnv) bool {
	if len(strings.Fields(valueTypeMade(sourceTypeIn(m, e)))) > impl.AtomsMax {
		return true
	}
	if m.head == "lam" {
		e = e.with(m.parts[0].bound, m.parts[1].typ)
	}
	return slices.ContainsFunc(m.kidsMade(), func(kid *madeTerm) bool { return hasLargeTranslation(kid, e) })
}

func TestPromise64FreeNames(t *testing.T) {
	t.Parallel()
	open, twice := 0, 0
	for _, m := range someSources() {
		s, want := m.text(), m.free()
		free, ok := impl.SourceFree(s)
		if !ok || !slices.Equal(free, want) {
			t.Fatalf("SourceFree(%s) = %q, %v, want %q", s, free, ok, want)
		}
		if _, typed := impl.SourceType(s); typed && len(free) > 0 {
			t.Fatalf("%s has a type, and the free names %q", s, free)
		}
		for i, name := range free {
			bound := madeOf("lam", ":"+name, "b", m)
			left, ok := impl.SourceFree(bound.text())
			if ok != keepsSourceLimits(bound) || ok && !slices.Equal(left, slices.Concat(free[:i], free[i+1:])) {
				t.Fatalf("SourceFree(%s) = %q, %v, of %q but %s", bound.text(), left, ok, free, name)
			}
			open++
		}
		if len(m.uses()) > len(free) {
			twice++
		}
	}
	t.Log(open, twice)
	if open < 3000 || twice < 300 {
		t.Errorf("just %d free names, and %d expressions with one that stands twice", open, twice)
	}
	for _, s := range noSources() {
		if free, ok := impl.SourceFree(s); ok || len(free) != 0 || impl.SourcePure(s) {
			t.Errorf("%s: SourceFree %q, %v, SourcePure %v", quoted(s), free, ok, impl.SourcePure(s))
		}
	}
}

func TestPromise65ValuesAndRuns(t *testing.T) {
	t.Parallel()
	ran := map[string]int{}
	for _, w := range typedSources() {
		of, ok := impl.ValueOf(w.text)
		if !ok {
			continue
		}
		for bit := range 2 {
			print, behind, evaluated := impl.EvalValue(w.text, bit, impl.FuelMax)
			end, left, _, ok := impl.Run(of, bit, impl.FuelMax)
			if !evaluated || !ok {
				t.Fatalf("EvalValue(%s, %d) %v, Run of %s %v", w.text, bit, evaluated, of, ok)
			}
			want := "fail"
			if print != "fail" {
				want = "(return " + print + ")"
			}
			if end != want || left != behind {
				t.Fatalf("EvalValue(%s, %d) = %s, %d, and Run of %s %s, %d", w.text, bit, print, behind, of, end, left)
			}
			ran[print]++
			if behind != bit && print != "fail" {
				ran["another bit"]++
			}
		}
	}
	t.Log(ran)
	for _, print := range []string{"0", "1", "fail", "thunk", "(pair 0 1)", "another bit"} {
		if ran[print] < 100 {
			t.Errorf("just %d runs come to %s", ran[print], print)
		}
	}
}

func TestPromise66Fuels(t *testing.T) {
	t.Parallel()
	for i, w := range typedSources() {
		for bit, end := range w.ends {
			byValue.wantEnd(t, w.text, bit, end)
		}
		if i%10 == 0 {
			byValue.wantArguments(t, w.text)
		}
	}
}

func TestPromise67TypesByValue(t *testing.T) {
	t.Parallel()
	fine, same := 0, 0
	for _, w := range sourceTypes() {
		want := valueTypeMade(w.text)
		typ, ok := impl.ValueType(w.text)
		if len(strings.Fields(want)) > impl.AtomsMax {
			if ok || typ != "" {
				t.Fatalf("ValueType(%s) = %s, %v", w.text, typ, ok)
			}
			continue
		}
		fine++
		plain := !strings.Contains(w.text, ">")
		if !ok || typ != want || impl.TypeKind(typ) != "value" || impl.TypePlain(typ) != plain || (typ == w.text) != plain {
			t.Fatalf("ValueType(%s) = %s, %v, which is plain %v, want %s", w.text, typ, ok, impl.TypePlain(typ), want)
		}
		if plain {
			same++
		}
	}
	t.Log(fine, same)
	if fine < 100 || same < 60 {
		t.Errorf("just %d source types have a translation, %d of them without functions", fine, same)
	}
	for _, s := range noSourceTypes() {
		typ, typed := impl.ValueType(s)
		simple, ok := impl.SourceDefault(s)
		if typed || typ != "" || ok || simple != "" {
			t.Errorf("%s: ValueType %s, %v, SourceDefault %s, %v", quoted(s), typ, typed, simple, ok)
		}
	}
}

func TestPromise68TranslationsByValue(t *testing.T) {
	t.Parallel()
	terms, none, meant := 0, 0, map[string]int{}
	for _, w := range typedSources() {
		made := valueTranslator.made(w.term)
		of, ok := impl.ValueOf(w.text)
		if !isTerm(made) {
			none++
			if ok || of != "" {
				t.Fatalf("ValueOf(%s) = %s, %v", w.text, of, ok)
			}
			continue
		}
		terms++
		if !ok || of != made.text() || !impl.TermClosed(of) || impl.TermSort(of) != "computation" {
			t.Fatalf("ValueOf(%s) = %s, %v, which is closed %v, want %s", w.text, of, ok, impl.TermClosed(of), made.text())
		}
		for bit, end := range w.ends {
			print, behind, ok := impl.MeaningRun(of, bit)
			if !ok {
				continue
			}
			meant[w.typ]++
			if end.print == "fail" && (print != "fail" || behind != 0) || end.print != "fail" && (print != "(return "+end.print+")" || behind != end.bit) {
				t.Fatalf("MeaningRun(%s, %d) = %s, %d, and %s comes to %s, %d", of, bit, print, behind, w.text, end.print, end.bit)
			}
		}
	}
	t.Log(terms, none, meant)
	if terms < 3000 || none < 50 || meant["b"] < 1000 || meant["(* b b)"] < 200 {
		t.Errorf("just %d translations are terms and %d are none; those with a meaning: %v", terms, none, meant)
	}
}

func TestPromise69SimpleSources(t *testing.T) {
	t.Parallel()
	for _, w := range sourceTypes() {
		want := simpleSourceMade(w.text)
		s, ok := impl.SourceDefault(w.text)
		if !ok || s != want {
			t.Fatalf("SourceDefault(%s) = %s, %v, want %s", w.text, s, ok, want)
		}
		if typ, ok := impl.SourceType(s); !ok || typ != w.text || !impl.SourcePure(s) {
			t.Fatalf("SourceDefault(%s) = %s of %s, without effects %v", w.text, s, typ, impl.SourcePure(s))
		}
	}
}

// simpleSourceMade returns the expression of SourceDefault.
func simpleSourceMade(typ string) string {
	w := sourceTypesByText()[typ]
	switch w.head {
	case "*":
		return "(pair " + simpleSourceMade(w.first) + " " + simpleSourceMade(w.second) + ")"
	case ">":
		return "(lam x " + w.first + " " + simpleSourceMade(w.second) + ")"
	}
	return "0"
}

func TestSourcesWithoutEffects(t *testing.T) {
	t.Parallel()
	for _, m := range someSources() {
		s := m.text()
		want := !strings.Contains(s, "(get)") && !strings.Contains(s, "(put ") && !strings.Contains(s, "(fail ")
		if impl.SourcePure(s) != want {
			t.Fatalf("SourcePure(%s) = %v", s, impl.SourcePure(s))
		}
	}
}
