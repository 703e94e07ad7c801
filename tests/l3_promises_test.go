package tests

import (
	"slices"
	"strings"
	"testing"

	"loop.example/pushvalue/impl"
)

// Each test of this file holds a promise of chapter 3 against environments and terms whose types are known, and against invalid ones.

// someEnvs returns environments of all numbers of names, many with equal names.
func someEnvs() []madeEnv {
	d := newTypedDice(2, 0)
	envs := []madeEnv{{}, {[]string{}, nil}, {nil, []string{}}}
	for i := range 500 {
		envs = append(envs, d.env(i%(impl.EnvMax+1)))
	}
	for _, w := range allTypes() {
		if w.kind == "value" {
			envs = append(envs, madeEnv{[]string{"x"}, []string{w.text}}, madeEnv{[]string{"x", "y", "x"}, []string{"b", w.text, "(* b b)"}})
		}
	}
	return envs
}

// noEnvs returns lists that are no environments.
func noEnvs() []madeEnv {
	names, types := strings.Fields("a b c d e f g h i"), slices.Repeat([]string{"b"}, impl.EnvMax+1)
	envs := []madeEnv{
		{names, types}, {names, types[:impl.EnvMax]}, {names[:impl.EnvMax], types}, {slices.Repeat([]string{"x"}, impl.EnvMax+1), types}, {slices.Repeat([]string{"x"}, 1000), slices.Repeat([]string{"b"}, 1000)},
		{[]string{"x"}, nil}, {nil, []string{"b"}}, {[]string{"x", "y"}, []string{"b"}}, {[]string{"x"}, []string{"b", "b"}}, {[]string{"x", "x"}, []string{"b"}}, {[]string{""}, []string{""}},
	}
	for _, name := range []string{"", "0", "1", "x1000", "xx", "(x)", "X", "x ", " x", "return", "thunk", "b b", "*", "\xff", "é", strings.Repeat("x", 1<<20)} {
		envs = append(envs, amid(name, "b")...)
	}
	types = []string{
		"", "x", "0", "(f b)", "(> b (f b))", "(& (f b) (f b))", "(f (u (f b)))", "(u b)", "(* b (f b))", "(u (u (f b)))", "(return 0)", " b", "b ", "(b)", "b b", "B", "\xff",
		valueTypeOf13, "(u (> b (f (* b (* b (* b (* b b)))))))", computationTypeOf12, computationTypeOf13, strings.Repeat("b", 1<<20),
	}
	for _, typ := range types {
		envs = append(envs, amid("x", typ)...)
	}
	return envs
}

// amid returns environments of one to three names that have a name and its type in each place.
func amid(name, typ string) []madeEnv {
	return []madeEnv{
		{[]string{name}, []string{typ}}, {[]string{name, "x", "y"}, []string{typ, "b", "b"}}, {[]string{"x", name, "y"}, []string{"b", typ, "b"}}, {[]string{"x", "y", name}, []string{"b", "b", typ}},
		{slices.Concat(strings.Fields("a b c d e f g"), []string{name}), append(slices.Repeat([]string{"b"}, 7), typ)},
	}
}

// wantNoType wants that a term has no type in an environment.
func wantNoType(t *testing.T, e madeEnv, s string) {
	t.Helper()
	if typ, ok := impl.TermType(e.names, e.types, s); ok || typ != "" {
		t.Errorf("TermType(%s, %s) = %s, %v", quoted(e.text()), quoted(s), quoted(typ), ok)
	}
}

func TestPromise21Environments(t *testing.T) {
	for _, e := range someEnvs() {
		if !impl.EnvValid(e.names, e.types) {
			t.Fatalf("EnvValid(%s) = false", e.text())
		}
		for _, name := range e.names {
			if typ, ok := impl.EnvLook(e.names, e.types, name); !ok || typ != e.look(name) {
				t.Fatalf("EnvLook(%s, %s) = %s, %v, want %s", e.text(), name, typ, ok, e.look(name))
			}
		}
		for _, name := range []string{"z", "z9", "x9", "", "0", "1", "xx", "(x)", "(return x)", "x1000", "\xff"} {
			if typ, ok := impl.EnvLook(e.names, e.types, name); ok || typ != "" {
				t.Fatalf("EnvLook(%s, %s) = %s, %v", e.text(), name, typ, ok)
			}
		}
	}
	for _, e := range noEnvs() {
		if impl.EnvValid(e.names, e.types) {
			t.Errorf("EnvValid(%s) = true", quoted(e.text()))
		}
		for _, name := range append(e.names, "z") {
			if typ, ok := impl.EnvLook(e.names, e.types, name); ok || typ != "" {
				t.Errorf("EnvLook(%s, %s) = %s, %v", quoted(e.text()), quoted(name), typ, ok)
			}
		}
	}
}

func TestPromise22TypesOfNames(t *testing.T) {
	for _, e := range someEnvs() {
		for _, name := range e.names {
			looked, _ := impl.EnvLook(e.names, e.types, name)
			if typ, ok := impl.TermType(e.names, e.types, name); !ok || typ != looked || impl.TypeKind(typ) != "value" {
				t.Fatalf("TermType(%s, %s) = %s, %v, EnvLook %s", e.text(), name, typ, ok, looked)
			}
		}
		for _, name := range []string{"z", "z9", "x9"} {
			wantNoType(t, e, name)
		}
	}
	for _, e := range noEnvs() {
		for _, s := range append(e.names, "0", "(return 1)", "(fail (f b))", "(get x (return x))") {
			wantNoType(t, e, s)
		}
	}
}

func TestPromise23TypesOfTerms(t *testing.T) {
	d := newTypedDice(3, 0)
	for _, w := range typedTerms() {
		typ, ok := impl.TermType(w.env.names, w.env.types, w.text)
		if !ok || typ != w.typ {
			t.Fatalf("TermType(%s, %s) = %s, %v, want %s", w.env.text(), w.text, typ, ok, w.typ)
		}
		if impl.TypeKind(typ) != impl.TermSort(w.text) {
			t.Fatalf("TermType(%s, %s) = %s, TermSort %s", w.env.text(), w.text, typ, impl.TermSort(w.text))
		}
		canon, _ := impl.TermCanon(w.text)
		if other, ok := impl.TermType(w.env.names, w.env.types, canon); !ok || other != typ {
			t.Fatalf("TermType(%s, %s) = %s, %v, want %s", w.env.text(), canon, other, ok, typ)
		}
		for _, name := range []string{"z", "x", "y", "n0", "n1", "f", "b"} {
			more := w.env.with(name, d.valueType())
			if slices.Contains(w.term.uses(), name) || len(more.names) > impl.EnvMax {
				continue
			}
			if other, ok := impl.TermType(more.names, more.types, w.text); !ok || other != typ {
				t.Fatalf("TermType(%s, %s) = %s, %v, want %s", more.text(), w.text, other, ok, typ)
			}
		}
	}
	for _, s := range noTerms() {
		wantNoType(t, madeEnv{}, s)
		wantNoType(t, madeEnv{[]string{"x", "z"}, []string{"b", "b"}}, s)
	}
}

// TestTermsWithoutTypes holds terms, of which most have no type, in environments that do not fit them against the rules.
func TestTermsWithoutTypes(t *testing.T) {
	d, untyped := newTypedDice(4, 40), 0
	small := madeEnv{[]string{"n0", "x"}, []string{"(* b b)", "(u (> b (f b)))"}}
	var all []standing
	for _, m := range smallTerms() {
		all = append(all, standing{m, small}, standing{m, madeEnv{}})
	}
	for i := range 2000 {
		e := d.env(i % (impl.EnvMax + 1))
		m, _ := d.term(e, 4)
		all = append(all, standing{m, e}, standing{d.renamed(m), e}, standing{m, d.env(i % 4)})
	}
	for _, s := range all {
		want := s.typ()
		if typ, ok := impl.TermType(s.env.names, s.env.types, s.term.text()); typ != want || ok != (want != "") {
			t.Fatalf("TermType(%s, %s) = %s, %v, want %s", s.env.text(), s.term.text(), typ, ok, want)
		}
		if want == "" {
			untyped++
		}
	}
	if untyped < 1000 || len(all)-untyped < 1000 {
		t.Errorf("%d of %d terms have no type", untyped, len(all))
	}
}

func TestPromise24TypesBehindPutting(t *testing.T) {
	puts := 0
	for _, w := range typedTerms() {
		for _, name := range w.term.free() {
			by, ok := impl.TermOf(w.env.look(name))
			if !ok {
				t.Fatalf("TermOf(%s) fails", w.env.look(name))
			}
			put, ok := impl.TermPut(w.text, name, by)
			if !ok {
				continue
			}
			puts++
			if typ, ok := impl.TermType(w.env.names, w.env.types, put); !ok || typ != w.typ {
				t.Fatalf("TermType(%s, %s) = %s, %v, and %s for %s", w.env.text(), put, typ, ok, w.typ, w.text)
			}
		}
	}
	if puts < 1000 {
		t.Errorf("just %d names were put", puts)
	}
}

func TestPromise25TypedTerms(t *testing.T) {
	t.Parallel()
	typed := 0
	for _, m := range someClosedTerms() {
		s, want := m.text(), standing{m, madeEnv{}}.typ() != ""
		if got := impl.TermTyped(s); got != want {
			t.Fatalf("TermTyped(%s) = %v", s, got)
		}
		fault, faulty := impl.TermFault(s)
		canon, _ := impl.TermCanon(s)
		if faulty == want || (fault == "") != want || impl.TermTyped(canon) != want || !impl.TermClosed(s) {
			t.Fatalf("TermTyped(%s) = %v, TermFault %s, %v, TermTyped of the canonical one %v", s, want, fault, faulty, impl.TermTyped(canon))
		}
		if want {
			typed++
		}
	}
	if typed < 500 {
		t.Errorf("just %d terms have a type", typed)
	}
	for _, w := range typedTerms() {
		if want := len(w.term.uses()) == 0; impl.TermTyped(w.text) != want {
			t.Fatalf("TermTyped(%s) = %v", w.text, !want)
		}
	}
	for _, s := range noTerms() {
		if impl.TermTyped(s) {
			t.Errorf("TermTyped(%s) = true", quoted(s))
		}
	}
}

// termOf returns what TermOf does of a type.
func (w wellFormed) termOf() string {
	switch w.head {
	case "*":
		return "(pair " + w.kids[0].termOf() + " " + w.kids[1].termOf() + ")"
	case "u":
		return "(thunk " + w.kids[0].termOf() + ")"
	case "f":
		return "(return " + w.kids[0].termOf() + ")"
	case ">":
		return "(lam x " + w.kids[0].text + " " + w.kids[1].termOf() + ")"
	case "&":
		return "(both " + w.kids[0].termOf() + " " + w.kids[1].termOf() + ")"
	}
	return "0"
}

func TestPromise26TermsOfTypes(t *testing.T) {
	for _, w := range allTypes() {
		s, ok := impl.TermOf(w.text)
		if !ok || s != w.termOf() {
			t.Fatalf("TermOf(%s) = %s, %v, want %s", w.text, s, ok, w.termOf())
		}
		typ, ok := impl.TermType(nil, nil, s)
		if !ok || typ != w.text || !impl.TermClosed(s) || !impl.TermPure(s) || !impl.TermTyped(s) {
			t.Fatalf("TermOf(%s) = %s of the type %s, TermClosed %v, TermPure %v", w.text, s, typ, impl.TermClosed(s), impl.TermPure(s))
		}
	}
	for _, s := range noTypes() {
		if term, ok := impl.TermOf(s); ok || term != "" {
			t.Errorf("TermOf(%s) = %s, %v", quoted(s), term, ok)
		}
	}
}

// wantNoFault wants that TermFault fails.
func wantNoFault(t *testing.T, s string) {
	t.Helper()
	if fault, ok := impl.TermFault(s); ok || fault != "" {
		t.Errorf("TermFault(%s) = %s, %v", quoted(s), quoted(fault), ok)
	}
}

func TestPromise27Faults(t *testing.T) {
	t.Parallel()
	faults := 0
	for _, m := range someClosedTerms() {
		s, want := m.text(), standing{m, madeEnv{}}.fault()
		fault, ok := impl.TermFault(s)
		if fault != want || ok != (want != "") {
			t.Fatalf("TermFault(%s) = %s, %v, want %s", s, fault, ok, want)
		}
		if !ok {
			continue
		}
		faults++
		kids, _ := impl.TermKids(fault)
		if impl.TermTyped(s) || impl.TermTyped(fault) || len(kids) == 0 || impl.TermSize(fault) > impl.TermSize(s) {
			t.Fatalf("TermFault(%s) = %s", s, fault)
		}
	}
	if faults < 500 {
		t.Errorf("just %d terms have a fault", faults)
	}
	for _, w := range typedTerms() {
		wantNoFault(t, w.text)
	}
	for _, s := range noTerms() {
		wantNoFault(t, s)
	}
}

// pure reports what TermPure does.
func (m *madeTerm) pure() bool {
	for _, p := range m.parts {
		if p.kid != nil && !p.kid.pure() {
			return false
		}
	}
	return !slices.Contains([]string{"get", "put", "fail", "try"}, m.head)
}

// TestPromise28PureTerms holds what promise 28 says of the parts; TestPromise28PureRuns holds what it says of Run.
func TestPromise28PureTerms(t *testing.T) {
	pure := 0
	for _, m := range someTerms() {
		s, want := m.text(), m.pure()
		if got := impl.TermPure(s); got != want {
			t.Fatalf("TermPure(%s) = %v", s, got)
		}
		if !want {
			continue
		}
		pure++
		for _, kid := range m.kids() {
			if !impl.TermPure(kid) {
				t.Fatalf("TermPure(%s), but not of its part %s", s, kid)
			}
		}
	}
	if pure < 500 {
		t.Errorf("just %d terms are pure", pure)
	}
	for _, s := range noTerms() {
		if impl.TermPure(s) {
			t.Errorf("TermPure(%s) = true", quoted(s))
		}
	}
}
