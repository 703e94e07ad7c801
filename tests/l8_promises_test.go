package tests

import (
	"slices"
	"strings"
	"testing"

	"loop.example/pushvalue/impl"
)

// Each test of this file holds a promise of chapter 8 against source expressions whose parts are known, against all source types, and against invalid arguments.

var byName = evaluation{"EvalName", impl.EvalName}

// wantNothingByName wants that nothing is told of a text by name, as it is no source expression or has no type.
func wantNothingByName(t *testing.T, s string) {
	t.Helper()
	if of, ok := impl.NameOf(s); ok || of != "" {
		t.Errorf("NameOf(%s) = %s, %v", quoted(s), of, ok)
	}
	for bit := range 2 {
		for _, fuel := range []int{0, 1, 50, impl.FuelMax} {
			byName.wantNone(t, s, bit, fuel)
		}
		if impl.NameAgrees(s, bit) {
			t.Errorf("NameAgrees(%s, %d) holds", quoted(s), bit)
		}
	}
	wantNoMeans(t, s)
}

func wantNoMeans(t *testing.T, s string) {
	t.Helper()
	if value, name, ok := impl.SourceMeans(s); ok || value != 0 || name != 0 {
		t.Errorf("SourceMeans(%s) = %d, %d, %v", quoted(s), value, name, ok)
	}
}

func TestPromise70ExpressionsWithoutEffects(t *testing.T) {
	t.Parallel()
	pure := 0
	for _, w := range namedSources() {
		value, valueOk := impl.ValueOf(w.text)
		name, nameOk := impl.NameOf(w.text)
		if valueOk && impl.TermPure(value) != w.pure || nameOk && impl.TermPure(name) != w.pure {
			t.Fatalf("ValueOf(%s) = %s is without effects %v, NameOf %s %v", w.text, value, impl.TermPure(value), name, impl.TermPure(name))
		}
		if !w.pure {
			continue
		}
		pure++
		for _, e := range []evaluation{byValue, byName} {
			print0, bit0, ok0 := e.of(w.text, 0, impl.FuelMax)
			print1, bit1, ok1 := e.of(w.text, 1, impl.FuelMax)
			if !ok0 || !ok1 || print0 != print1 || bit0 != 0 || bit1 != 1 || !impl.SourcePure(w.text) {
				t.Fatalf("%s(%s) = %s, %d, %v and %s, %d, %v", e.name, w.text, print0, bit0, ok0, print1, bit1, ok1)
			}
		}
	}
	t.Log(pure)
	if pure < 2000 {
		t.Errorf("just %d expressions without effects", pure)
	}
}

func TestPromise71NamesAndRuns(t *testing.T) {
	t.Parallel()
	ran, large := map[string]int{}, 0
	for _, w := range namedSources() {
		of, ok := impl.NameOf(w.text)
		if !ok {
			continue
		}
		for bit, want := range w.named {
			print, behind, evaluated := impl.EvalName(w.text, bit, impl.FuelMax)
			if !evaluated || print != want.print || behind != want.bit {
				t.Fatalf("EvalName(%s, %d) = %s, %d, %v, want %s, %d", w.text, bit, print, behind, evaluated, want.print, want.bit)
			}
			end, left, _, ok := impl.Run(of, bit, impl.FuelMax)
			if !ok {
				large++
				continue
			}
			if end != print || left != behind {
				t.Fatalf("EvalName(%s, %d) = %s, %d, and Run of %s %s, %d", w.text, bit, print, behind, of, end, left)
			}
			ran[print]++
			if behind != bit && print != "fail" {
				ran["another bit"]++
			}
		}
	}
	t.Log(ran, large)
	for _, print := range []string{"(return 0)", "(return 1)", "fail", "lam", "both", "another bit"} {
		if ran[print] < 300 {
			t.Errorf("just %d runs come to %s", ran[print], print)
		}
	}
	// What a step comes to is no term if what is put for a name makes it too large.
	if large > 100 {
		t.Errorf("%d runs fail", large)
	}
}

func TestPromise72FuelsByName(t *testing.T) {
	t.Parallel()
	for i, w := range namedSources() {
		for bit, end := range w.named {
			byName.wantEnd(t, w.text, bit, end)
			wantEndOfType(t, w, bit)
		}
		if i%10 == 0 {
			byName.wantArguments(t, w.text)
		}
	}
	for _, s := range untypedSources() {
		wantNothingByName(t, s)
	}
	for _, s := range noSources() {
		wantNothingByName(t, s)
	}
}

// wantEndOfType wants an end that is one of the type of an expression, or a failure.
func wantEndOfType(t *testing.T, w namedSource, bit int) {
	t.Helper()
	print, _, ok := impl.EvalName(w.text, bit, impl.FuelMax)
	want := map[string][]string{"b": {"(return 0)", "(return 1)"}, ">": {"lam"}, "*": {"both"}}[sourceTypesByText()[w.typ].head]
	if ok && print != "fail" && !slices.Contains(want, print) {
		t.Fatalf("EvalName(%s, %d) = %s of %s", w.text, bit, print, w.typ)
	}
}

func TestPromise73TypesByName(t *testing.T) {
	t.Parallel()
	fine := map[string]int{}
	for _, w := range sourceTypes() {
		want := nameTypeMade(w.text)
		typ, ok := impl.NameType(w.text)
		if len(strings.Fields(want)) > impl.AtomsMax {
			if ok || typ != "" {
				t.Fatalf("NameType(%s) = %s, %v", w.text, typ, ok)
			}
			continue
		}
		fine[w.head]++
		head := map[string]string{"b": "f", ">": ">", "*": "&"}[w.head]
		if !ok || typ != want || impl.TypeKind(typ) != "computation" || impl.TypePlain(typ) != (w.text == "b") || impl.TypeHead(typ) != head {
			t.Fatalf("NameType(%s) = %s, %v, which is plain %v, want %s", w.text, typ, ok, impl.TypePlain(typ), want)
		}
	}
	t.Log(fine)
	if fine["b"] != 1 || fine[">"] < 6 || fine["*"] < 9 {
		t.Errorf("source types with a translation, by their heads: %v", fine)
	}
	for _, s := range noSourceTypes() {
		if typ, ok := impl.NameType(s); ok || typ != "" {
			t.Errorf("NameType(%s) = %s, %v", quoted(s), typ, ok)
		}
	}
}

func TestPromise74TranslationsByName(t *testing.T) {
	t.Parallel()
	terms, none, typed, meant := 0, 0, map[string]int{}, 0
	for _, w := range namedSources() {
		made := nameTranslator.made(w.term)
		of, ok := impl.NameOf(w.text)
		if !isTerm(made) {
			none++
			if ok || of != "" {
				t.Fatalf("NameOf(%s) = %s, %v", w.text, of, ok)
			}
			continue
		}
		terms++
		if !ok || of != made.text() || !impl.TermClosed(of) || impl.TermSort(of) != "computation" {
			t.Fatalf("NameOf(%s) = %s, %v, which is closed %v, want %s", w.text, of, ok, impl.TermClosed(of), made.text())
		}
		typ, ok := impl.TermType(nil, nil, of)
		if want := (standing{made, madeEnv{}}).typ(); typ != want || ok != (want != "") {
			t.Fatalf("NameOf(%s) = %s of %s, %v, want %s", w.text, of, typ, ok, want)
		}
		if nameType, _ := impl.NameType(w.typ); ok && typ != nameType {
			t.Fatalf("NameOf(%s) = %s of %s, and NameType(%s) = %s", w.text, of, typ, w.typ, nameType)
		}
		typed[sourceTypesByText()[w.typ].head+typ[:min(1, len(typ))]]++
		for bit, end := range w.named {
			print, behind, ok := impl.MeaningRun(of, bit)
			if !ok {
				continue
			}
			meant++
			if print != end.print || behind != end.bit {
				t.Fatalf("MeaningRun(%s, %d) = %s, %d, and %s comes to %s, %d", of, bit, print, behind, w.text, end.print, end.bit)
			}
		}
	}
	t.Log(terms, none, typed, meant)
	if terms < 5000 || none < 100 || meant < 1500 {
		t.Errorf("just %d translations are terms and %d are none; %d meanings", terms, none, meant)
	}
	for _, head := range []string{"b", ">", "*"} {
		if typed[head] < 100 || typed[head+"("] < 300 {
			t.Errorf("of a type with %s, just %d translations have a type and %d have none", head, typed[head+"("], typed[head])
		}
	}
}

func TestPromise75Agreement(t *testing.T) {
	t.Parallel()
	agreed, pure := map[bool]int{}, 0
	for _, w := range namedSources() {
		for bit := range 2 {
			agrees := impl.NameAgrees(w.text, bit)
			if agrees != w.agrees(bit) {
				t.Fatalf("NameAgrees(%s, %d) = %v, and the ends are %v and %v", w.text, bit, agrees, w.ends[bit], w.named[bit])
			}
			agreed[agrees]++
			value, valueBehind, valueOk := impl.EvalValue(w.text, bit, impl.FuelMax)
			name, nameBehind, nameOk := impl.EvalName(w.text, bit, impl.FuelMax)
			if w.pure && w.typ == "b" && valueOk && nameOk {
				pure++
				if !agrees {
					t.Fatalf("NameAgrees(%s, %d) does not hold", w.text, bit)
				}
			}
			if agrees && (!valueOk || !nameOk || valueBehind != nameBehind || value != strings.Trim(name, "(return )") && value != name) {
				t.Fatalf("NameAgrees(%s, %d) holds for %s, %d and %s, %d", w.text, bit, value, valueBehind, name, nameBehind)
			}
		}
		for _, bit := range noBits() {
			if impl.NameAgrees(w.text, bit) {
				t.Fatalf("NameAgrees(%s, %d) holds", w.text, bit)
			}
		}
	}
	t.Log(agreed, pure)
	if agreed[true] < 5000 || agreed[false] < 1000 || pure < 2000 {
		t.Errorf("evaluations agree: %v, %d of them without effects", agreed, pure)
	}
}

func TestPromise76RunsOfBothTranslations(t *testing.T) {
	t.Parallel()
	ran := map[string]int{}
	for _, w := range namedSources() {
		value, _ := impl.ValueOf(w.text)
		name, _ := impl.NameOf(w.text)
		for bit := range 2 {
			if !impl.NameAgrees(w.text, bit) {
				continue
			}
			valuePrint, valueBehind, _, valueOk := impl.Run(value, bit, impl.FuelMax)
			namePrint, nameBehind, _, nameOk := impl.Run(name, bit, impl.FuelMax)
			if !valueOk || !nameOk {
				continue
			}
			ran[valuePrint]++
			if valuePrint != namePrint || valueBehind != nameBehind {
				t.Fatalf("of %s from %d, Run(%s) = %s, %d and Run(%s) = %s, %d", w.text, bit, value, valuePrint, valueBehind, name, namePrint, nameBehind)
			}
		}
	}
	t.Log(ran)
	if ran["(return 0)"] < 2000 || ran["(return 1)"] < 2000 || ran["fail"] < 200 {
		t.Errorf("ends of runs that agree: %v", ran)
	}
}

// meansFrom returns the element of (f b) that tells both ends of an evaluation.
func meansFrom(ends [2]sourceEnd) int {
	var answers [2]answer
	for state, end := range ends {
		if end.print != "fail" {
			answers[state] = answer{true, end.bit, strings.Index("01", strings.Trim(end.print, "(return )"))}
		}
	}
	return elementOf("(f b)", answers)
}

// isMeant reports whether both translations of an expression of b have a meaning.
// By name no function has a known count, so that no names are bound; and where the count is known by name, it is so by value.
func isMeant(w namedSource) bool {
	if w.typ != "b" || !isTerm(nameTranslator.made(w.term)) || !isTerm(valueTranslator.made(w.term)) {
		return false
	}
	return !slices.ContainsFunc(w.term.allWithin(), func(m *madeTerm) bool {
		typ := sourceTypeIn(m, madeEnv{})
		return typ == "" || countOf(nameTypeMade(typ)) == -1
	})
}

func TestPromise77Meanings(t *testing.T) {
	t.Parallel()
	same, none := map[bool]int{}, map[string]int{}
	for _, w := range namedSources() {
		if !isMeant(w) {
			wantNoMeans(t, w.text)
			none[w.typ]++
			continue
		}
		value, name, ok := impl.SourceMeans(w.text)
		if wantValue, wantName := meansFrom(w.ends), meansFrom(w.named); !ok || value != wantValue || name != wantName {
			t.Fatalf("SourceMeans(%s) = %d, %d, %v, want %d, %d", w.text, value, name, ok, wantValue, wantName)
		}
		if w.pure && value != name {
			t.Fatalf("SourceMeans(%s) = %d, %d", w.text, value, name)
		}
		if both := impl.NameAgrees(w.text, 0) && impl.NameAgrees(w.text, 1); both != (value == name) {
			t.Fatalf("SourceMeans(%s) = %d, %d, and the evaluations agree %v", w.text, value, name, both)
		}
		same[value == name]++
	}
	t.Log(same, none)
	if same[true] < 1000 || same[false] < 100 || none["b"] < 500 || none["(* b b)"] < 300 {
		t.Errorf("equal meanings %v, and none of types %v", same, none)
	}
}

func TestPromise78MeaningsWithinAFunction(t *testing.T) {
	t.Parallel()
	within := 0
	for _, w := range namedSources() {
		first, _, ok := impl.SourceMeans(w.text)
		if !ok {
			continue
		}
		of, _ := impl.ValueOf(w.text)
		// The last one is a source expression itself. None of these has a meaning, as that of a function that is returned has no known count.
		applied, _ := impl.ValueOf("(app (lam z b " + w.text + ") 0)")
		for _, s := range []string{"(app (lam z b " + of + ") 0)", "(app (lam v0 b " + of + ") 0)", applied} {
			element, ok := impl.Denote(s)
			if !ok {
				continue
			}
			within++
			if element != first {
				t.Fatalf("SourceMeans(%s) = %d, and %s means %d", w.text, first, s, element)
			}
		}
	}
	t.Log(within)
	if within < 3000 {
		t.Errorf("just %d meanings within a function", within)
	}
}
