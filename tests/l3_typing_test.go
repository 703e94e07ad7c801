package tests

import (
	"slices"
	"strconv"
	"strings"
	"testing"

	"loop.example/pushvalue/impl"
)

// envOf reads an environment of names and types in turn.
func envOf(words ...string) madeEnv {
	var e madeEnv
	for i := 0; i < len(words); i += 2 {
		e = e.with(words[i], words[i+1])
	}
	return e
}

// wantType wants the type of a term in an environment, or none for "".
func wantType(t *testing.T, e madeEnv, s, want string) {
	t.Helper()
	if typ, ok := impl.TermType(e.names, e.types, s); typ != want || ok != (want != "") {
		t.Errorf("TermType(%s, %s) = %s, %v, want %s", e.text(), quoted(s), typ, ok, want)
	}
}

func TestTypeOfEachForm(t *testing.T) {
	e := envOf("v", "b", "p", "(* b (u (f b)))", "t", "(u (f b))", "f", "(u (> b (f b)))", "g", "(u (> (* b (u (f b))) (& (f b) (f b))))", "c", "(u (& (f b) (> b (f b))))")
	for _, w := range []struct{ s, want string }{
		{"v", "b"}, {"0", "b"}, {"1", "b"}, {"z", ""},
		{"(pair v p)", "(* b (* b (u (f b))))"}, {"(pair p v)", "(* (* b (u (f b))) b)"}, {"(pair v z)", ""}, {"(pair z v)", ""},
		{"(thunk (return v))", "(u (f b))"}, {"(thunk (force f))", "(u (> b (f b)))"}, {"(thunk (return z))", ""},
		{"(return p)", "(f (* b (u (f b))))"}, {"(return z)", ""},
		{"(to (force t) x (return (pair x x)))", "(f (* b b))"}, {"(to (force t) x (force f))", "(> b (f b))"}, {"(to (return p) x (return x))", "(f (* b (u (f b))))"},
		{"(to (force f) x (return 0))", ""}, {"(to (force c) x (return 0))", ""}, {"(to (force t) x (return z))", ""}, {"(to (return z) x (return 0))", ""},
		{"(force t)", "(f b)"}, {"(force g)", "(> (* b (u (f b))) (& (f b) (f b)))"}, {"(force v)", ""}, {"(force p)", ""}, {"(force z)", ""},
		{"(lam x (* b b) (return x))", "(> (* b b) (f (* b b)))"}, {"(lam x b (lam y (u (f b)) (force y)))", "(> b (> (u (f b)) (f b)))"}, {"(lam x b (return z))", ""},
		{"(app (force f) v)", "(f b)"}, {"(app (force g) p)", "(& (f b) (f b))"}, {"(app (force f) p)", ""}, {"(app (force g) v)", ""}, {"(app (force g) (pair v v))", ""},
		{"(app (force t) v)", ""}, {"(app (force c) v)", ""}, {"(app (return f) v)", ""}, {"(app (force f) z)", ""}, {"(app (force z) v)", ""},
		{"(if v (return 0) (force t))", "(f b)"}, {"(if 1 (force f) (force f))", "(> b (f b))"}, {"(if p (return 0) (return 1))", ""}, {"(if t (return 0) (return 1))", ""},
		{"(if v (return 0) (return p))", ""}, {"(if v (return 0) (force f))", ""}, {"(if z (return 0) (return 0))", ""}, {"(if v (return z) (return 0))", ""}, {"(if v (return 0) (return z))", ""},
		{"(split p x y (return (pair y x)))", "(f (* (u (f b)) b))"}, {"(split p x y (force y))", "(f b)"}, {"(split p x y (force x))", ""}, {"(split v x y (return 0))", ""}, {"(split t x y (return 0))", ""}, {"(split z x y (return 0))", ""},
		{"(both (return v) (force f))", "(& (f b) (> b (f b)))"}, {"(both (return v) (return z))", ""}, {"(both (return z) (return v))", ""},
		{"(fst (force c))", "(f b)"}, {"(snd (force c))", "(> b (f b))"}, {"(fst (force f))", ""}, {"(snd (force t))", ""}, {"(fst (return p))", ""}, {"(snd (return p))", ""}, {"(snd (force z))", ""},
		{"(get x (return (pair x p)))", "(f (* b (* b (u (f b)))))"}, {"(get x (force f))", "(> b (f b))"}, {"(get x (force x))", ""}, {"(get x (return z))", ""},
		{"(put v (force c))", "(& (f b) (> b (f b)))"}, {"(put t (return 0))", ""}, {"(put p (return 0))", ""}, {"(put z (return 0))", ""}, {"(put v (return z))", ""},
		{"(fail (f b))", "(f b)"}, {"(fail (> b (& (f b) (f b))))", "(> b (& (f b) (f b)))"},
		{"(try (force t) (return v))", "(f b)"}, {"(try (return p) (fail (f (* b (u (f b))))))", "(f (* b (u (f b))))"}, {"(try (force f) (force f))", ""}, {"(try (force c) (force c))", ""},
		{"(try (return 0) (return p))", ""}, {"(try (return p) (return 0))", ""}, {"(try (force f) (return 0))", ""}, {"(try (return 0) (force f))", ""}, {"(try (return z) (return 0))", ""}, {"(try (return 0) (return z))", ""},
	} {
		wantType(t, e, w.s, w.want)
	}
}

func TestNamesThatAreShadowed(t *testing.T) {
	for _, w := range []struct {
		env     madeEnv
		s, want string
	}{
		// equal names in an environment
		{envOf("x", "b", "x", "(* b b)"), "x", "(* b b)"},
		{envOf("x", "(* b b)", "x", "b"), "x", "b"},
		{envOf("x", "b", "y", "(u (f b))", "x", "(* b b)", "y", "b"), "(pair x y)", "(* (* b b) b)"},
		{slicesEnv("x", "b", "(* b b)", "(* b (* b b))", "(u (f b))", "b", "(* b b)", "(* b (* b b))", "(u (f (* b b)))"), "(force x)", "(f (* b b))"},
		{envOf("x", "(u (f b))", "x", "b"), "(force x)", ""},
		// equal to a name of the environment
		{envOf("x", "b"), "(lam x (* b b) (return x))", "(> (* b b) (f (* b b)))"},
		{envOf("x", "(* b b)"), "(get x (return x))", "(f b)"},
		{envOf("x", "(* b b)"), "(to (return 0) x (return x))", "(f b)"},
		{envOf("x", "(* b (* b b))"), "(split x x y (return x))", "(f b)"},
		{envOf("x", "(* b (* b b))"), "(split x y x (return x))", "(f (* b b))"},
		{envOf("x", "(* b b)", "y", "(u (f b))"), "(split x y z (return (pair y x)))", "(f (* b (* b b)))"},
		{envOf("x", "b", "x", "(* b b)"), "(get x (return x))", "(f b)"},
		// it counts again outside of the last part
		{envOf("x", "(* b b)"), "(both (get x (return x)) (return x))", "(& (f b) (f (* b b)))"},
		{envOf("x", "(* b b)"), "(app (lam x b (return x)) x)", ""},
		{envOf("x", "b"), "(app (lam x b (return (pair x x))) x)", "(f (* b b))"},
		{envOf("x", "(u (f (* b b)))"), "(to (force x) x (return x))", "(f (* b b))"},
		{envOf("x", "b"), "(to (lam x b (return x)) y (return x))", ""},
		{envOf("x", "(* b b)"), "(to (get x (return x)) y (return (pair x y)))", "(f (* (* b b) b))"},
		{envOf("x", "(* b b)"), "(if 0 (get x (return (pair x x))) (return x))", "(f (* b b))"},
		{envOf("x", "b"), "(try (to (return (pair x x)) x (return x)) (return x))", ""},
		{envOf("x", "(* b b)"), "(return (pair (thunk (get x (return x))) x))", "(f (* (u (f b)) (* b b)))"},
		// bound again within, by the same form
		{envOf(), "(lam x b (lam x (* b b) (return x)))", "(> b (> (* b b) (f (* b b))))"},
		{envOf(), "(lam x (* b b) (lam x b (return x)))", "(> (* b b) (> b (f b)))"},
		{envOf(), "(to (return 0) x (to (return (pair x x)) x (to (return (pair x x)) x (return x))))", "(f (* (* b b) (* b b)))"},
		{envOf(), "(split (pair 0 (pair (pair 0 0) 1)) y x (split x x y (return (pair x y))))", "(f (* (* b b) b))"},
		{envOf(), "(split (pair 0 (pair 0 1)) y x (split x y x (return x)))", "(f b)"},
		{envOf(), "(get x (get x (put x (return x))))", "(f b)"},
		{envOf(), "(to (to (return (pair 0 0)) x (return (pair 0 x))) x (return x))", "(f (* b (* b b)))"},
		// bound again within, by another form
		{envOf(), "(lam x (* b b) (get x (return x)))", "(> (* b b) (f b))"},
		{envOf(), "(get x (lam x (u (f b)) (force x)))", "(> (u (f b)) (f b))"},
		{envOf(), "(get x (to (return (thunk (return x))) x (force x)))", "(f b)"},
		{envOf(), "(lam x (* b (u (f b))) (split x y x (to (force x) x (return (pair x y)))))", "(> (* b (u (f b))) (f (* b b)))"},
		{envOf(), "(to (return (pair 0 0)) x (split x x y (return x)))", "(f b)"},
		{envOf(), "(split (pair 0 (pair 0 0)) x y (lam y b (return (pair x y))))", "(> b (f (* b b)))"},
		{envOf(), "(to (return (pair 0 0)) x (both (get x (return x)) (return x)))", "(& (f b) (f (* b b)))"},
		{envOf(), "(lam x (u (f b)) (to (force x) y (lam x b (return y))))", "(> (u (f b)) (> b (f b)))"},
		{envOf(), "(get x (lam x (u (f b)) (put x (force x))))", ""},
		{envOf(), "(lam x (u (f b)) (get x (force x)))", ""},
		// names that are written as what they are not
		{envOf("b", "(* b b)", "f", "b", "u", "(u (f b))"), "(lam b b (return (pair b f)))", "(> b (f (* b b)))"},
		{envOf("x1", "b", "x", "(* b b)", "x01", "(u (f b))"), "(return (pair x01 (pair x x1)))", "(f (* (u (f b)) (* (* b b) b)))"},
	} {
		wantType(t, w.env, w.s, w.want)
	}
}

// slicesEnv returns an environment of a name with some types.
func slicesEnv(name string, types ...string) madeEnv {
	return madeEnv{slices.Repeat([]string{name}, len(types)), types}
}

func TestTypesJustAtTheirLimit(t *testing.T) {
	e := envOf("a", "(* b (* b b))", "c", "(* b (* b (u (f b))))", "d", valueTypeOf12, "e", "(u (> b (f (* b (* b (* b b))))))")
	for _, w := range []struct{ s, want string }{
		{"d", valueTypeOf12}, {"(return d)", ""}, {"(pair d 0)", ""}, {"(pair 0 d)", ""}, {"(thunk (return d))", ""}, {"(lam x b (return d))", ""}, {"(to (return d) x (return 0))", ""}, {"(to (return 0) x (return d))", ""},
		{"(pair a a)", "(* (* b (* b b)) (* b (* b b)))"}, {"(pair a (pair a 0))", ""}, {"(pair a (pair 0 a))", ""}, {"(pair (pair a 0) a)", ""},
		{"(pair a (thunk (return (pair 0 0))))", "(* (* b (* b b)) (u (f (* b b))))"}, {"(pair c 0)", "(* (* b (* b (u (f b)))) b)"}, {"(pair c (pair 0 0))", "(* (* b (* b (u (f b)))) (* b b))"}, {"(pair c (pair 0 (pair 0 0)))", ""},
		{"(return (pair a (pair 0 (pair 0 0))))", "(f (* (* b (* b b)) (* b (* b b))))"}, {"(return (pair a (pair 0 (pair 0 (pair 0 0)))))", ""}, {"(return (pair a (thunk (return (pair 0 0)))))", "(f (* (* b (* b b)) (u (f (* b b)))))"},
		{"(thunk (return (pair a a)))", ""}, {"(thunk (return (pair a (pair 0 0))))", "(u (f (* (* b (* b b)) (* b b))))"}, {"(thunk (fail (f (* b (* b (* b (u (f b))))))))", "(u (f (* b (* b (* b (u (f b)))))))"},
		{"(thunk (fail (> b (f (* b (* b (* b b)))))))", "(u (> b (f (* b (* b (* b b))))))"}, {"(thunk (fail " + computationTypeOf12 + "))", ""}, {"(thunk (thunk (return 0)))", ""},
		{"(lam x (* b (* b b)) (return a))", "(> (* b (* b b)) (f (* b (* b b))))"}, {"(lam x (* b (* b b)) (return (pair 0 a)))", ""}, {"(lam x (* b (* b (* b b))) (return a))", ""}, {"(lam x (u (f (* b b))) (return a))", "(> (u (f (* b b))) (f (* b (* b b))))"},
		{"(lam x b (lam y b (return a)))", "(> b (> b (f (* b (* b b)))))"}, {"(lam v b (lam x b (lam y b (return a))))", "(> b (> b (> b (f (* b (* b b))))))"}, {"(lam u b (lam v b (lam x b (lam y b (return a)))))", ""}, {"(lam w b (lam v b (lam x b (lam y b (lam z b (return 0))))))", "(> b (> b (> b (> b (> b (f b))))))"}, {"(lam u b (lam w b (lam v b (lam x b (lam y b (lam z b (return 0)))))))", ""},
		{"(both (return a) (return 0))", "(& (f (* b (* b b))) (f b))"}, {"(both (return a) (return (pair 0 0)))", "(& (f (* b (* b b))) (f (* b b)))"}, {"(both (return a) (return (thunk (return 0))))", "(& (f (* b (* b b))) (f (u (f b))))"}, {"(both (return a) (return a))", ""},
		{"(both (return a) (lam x b (return 0)))", "(& (f (* b (* b b))) (> b (f b)))"}, {"(both (return a) (lam x b (return (pair 0 0))))", ""}, {"(both (return c) (return 0))", "(& (f (* b (* b (u (f b))))) (f b))"}, {"(both (return c) (return (pair 0 0)))", ""}, {"(both (return c) (return a))", ""},
		// what is met on the way counts, even if the whole has a small type
		{"(fst (both (return a) (return a)))", ""}, {"(snd (both (return a) (return (pair 0 0))))", "(f (* b b))"}, {"(to (return (pair a a)) x (return 0))", "(f b)"}, {"(to (return (pair c c)) x (return 0))", ""},
		{"(split (pair a a) x y (return x))", "(f (* b (* b b)))"}, {"(split (pair a c) x y (return 0))", ""}, {"(force (thunk (return (pair a a))))", ""}, {"(force (thunk (return (pair a 0))))", "(f (* (* b (* b b)) b))"},
		{"(force e)", "(> b (f (* b (* b (* b b)))))"}, {"(app (force e) 0)", "(f (* b (* b (* b b))))"}, {"(app (lam x " + valueTypeOf12 + " (return 0)) d)", ""}, {"(app (lam x b (return (pair 0 (pair a a)))) 0)", ""},
		{"(get x (return (pair a a)))", "(f (* (* b (* b b)) (* b (* b b))))"}, {"(put 0 (fail " + computationTypeOf12 + "))", computationTypeOf12}, {"(fail " + computationTypeOf12 + ")", computationTypeOf12}, {"(if 0 (fail " + computationTypeOf12 + ") (fail " + computationTypeOf12 + "))", computationTypeOf12},
		{"(app (fail " + computationTypeOf12 + ") 0)", "(f (* b (* b (* b (* b b)))))"}, {"(try (return (pair a a)) (return (pair a a)))", "(f (* (* b (* b b)) (* b (* b b))))"}, {"(try (return d) (return d))", ""},
	} {
		wantType(t, e, w.s, w.want)
	}
}

// TestTypesThatAreJustTooLarge makes terms whose parts have types, but whose own one would have an atom too many.
func TestTypesThatAreJustTooLarge(t *testing.T) {
	for _, w := range makeGrammar(impl.AtomsMax + 1).just(impl.AtomsMax + 1) {
		s := w.termOf()
		wantType(t, madeEnv{}, s, "")
		if fault, ok := impl.TermFault(s); !ok || fault != s {
			t.Fatalf("TermFault(%s) = %s, %v", s, fault, ok)
		}
	}
}

func TestManyNames(t *testing.T) {
	names, types := strings.Fields("a b c d e f g h"), slices.Repeat([]string{"(* b b)"}, impl.EnvMax)
	e := madeEnv{names, types}
	if !impl.EnvValid(names, types) || impl.EnvValid(append(names, "i"), append(types, "b")) || impl.EnvValid(append(names, "h"), append(types, "(* b b)")) {
		t.Errorf("EnvValid of 8 and 9 names")
	}
	// Names that are bound within a term are as many as it has room for.
	for _, n := range []int{1, 7, 8, 9, 10, 49} {
		var gets, puts string
		for i := range n {
			gets += "(get x" + strconv.Itoa(i) + " "
			puts += "(put x" + strconv.Itoa(i) + " "
		}
		ends := strings.Repeat(")", 2*n)
		wantType(t, e, gets+puts+"(return h)"+ends, "(f (* b b))")
		wantType(t, e, gets+puts+"(force a)"+ends, "")
		wantType(t, madeEnv{}, gets+puts+"(return x0)"+ends, "(f b)")
		wantType(t, madeEnv{}, gets+puts+"(return h)"+ends, "")
	}
	splits := strings.Repeat("(split a x y (split b y z ", 45)
	wantType(t, e, splits+"(return (pair x (pair h y)))"+strings.Repeat("))", 45), "(f (* b (* (* b b) b)))")
	wantType(t, e, strings.Repeat("(to (return a) a ", 98)+"(return a)"+strings.Repeat(")", 98), "(f (* b b))")
	wantType(t, e, strings.Repeat("(to (return a) x (to (return x) a ", 45)+"(return a)"+strings.Repeat("))", 45), "(f (* b b))")
}

func TestFaultsOfEachForm(t *testing.T) {
	const whole = "whole"
	for _, w := range []struct{ s, want string }{
		// its own parts have types, but it has none
		{"(force 0)", whole}, {"(force (pair 0 1))", whole}, {"(app (return 0) 0)", whole}, {"(app (lam x b (return x)) (pair 0 1))", whole}, {"(app (both (return 0) (return 0)) 0)", whole},
		{"(if (pair 0 1) (return 0) (return 1))", whole}, {"(if 0 (return 0) (return (pair 0 1)))", whole}, {"(fst (return 0))", whole}, {"(snd (lam x b (return x)))", whole}, {"(put (pair 0 1) (return 0))", whole}, {"(put (thunk (return 0)) (return 0))", whole},
		{"(try (lam x b (return x)) (lam x b (return x)))", whole}, {"(try (return 0) (return (pair 0 1)))", whole}, {"(try (both (return 0) (return 0)) (both (return 0) (return 0)))", whole}, {"(try (return 0) (lam x b (return x)))", whole},
		{"(split 0 x y (return 0))", whole}, {"(split (thunk (return 0)) x y (return 0))", whole}, {"(to (lam x b (return x)) y (return 0))", whole}, {"(to (both (return 0) (return 0)) x (return 0))", whole},
		// the type is too large
		{"(return " + pairsOf(7, "0") + ")", pairsOf(7, "0")}, {"(return " + pairsOf(6, "0") + ")", ""}, {"(thunk (return " + pairsOf(6, "0") + "))", whole}, {"(both (return " + pairsOf(3, "0") + ") (return " + pairsOf(3, "1") + "))", whole},
		{"(lam x " + valueTypeOf12 + " (return 0))", whole}, {"(lam x " + valueTypeOf12 + " (return x))", "(return x)"}, {"(lam x " + valueTypeOf12 + " (force x))", "(force x)"}, {"(pair " + pairsOf(6, "0") + " 0)", whole},
		{"(fst (both (return " + pairsOf(3, "0") + ") (return " + pairsOf(3, "0") + ")))", "(both (return " + pairsOf(3, "0") + ") (return " + pairsOf(3, "0") + "))"},
		// the last part is not looked at where the names that it binds have no types
		{"(to (lam x b (return x)) y (force 0))", whole}, {"(to (both (return 0) (return 0)) y (force y))", whole}, {"(to (fail (> b (f b))) y (to (force 0) y (force y)))", whole},
		{"(split 0 x y (force 0))", whole}, {"(split 1 x y (force x))", whole}, {"(split (thunk (return 0)) x y (split 0 x y (return x)))", whole},
		{"(both (return 0) (to (fail (& (f b) (f b))) x (return z)))", ""}, // not closed
		{"(both (return 0) (to (fail (& (f b) (f b))) x (return x)))", "(to (fail (& (f b) (f b))) x (return x))"}, {"(get z (split z x y (return z)))", "(split z x y (return z))"}, {"(get z (split z x y (force z)))", "(split z x y (force z))"},
		{"(both (to (lam x b (return x)) y (force 0)) (force 1))", "(to (lam x b (return x)) y (force 0))"}, {"(if 0 (split 0 x y (force 1)) (force 0))", "(split 0 x y (force 1))"},
		// it is looked at where they have
		{"(to (return 0) x (force x))", "(force x)"}, {"(to (fail (f b)) x (to (force x) y (return y)))", "(force x)"}, {"(split (pair 0 1) x y (force y))", "(force y)"}, {"(lam x b (force x))", "(force x)"}, {"(get x (force x))", "(force x)"}, {"(get x (split x y z (force z)))", "(split x y z (force z))"},
		{"(lam x (u (f b)) (to (force x) x (force x)))", "(force x)"}, {"(lam x (* b b) (put x (return x)))", "(put x (return x))"}, {"(get x (to (return x) x (split x x y (return x))))", "(split x x y (return x))"},
		// parts come ahead of what they are part of, and in order
		{"(to (force 0) x (force 1))", "(force 0)"}, {"(to (to (force 0) x (return x)) x (force 1))", "(force 0)"}, {"(to (fst (force 0)) x (return 0))", "(force 0)"}, {"(split (thunk (force 0)) x y (force 1))", "(force 0)"}, {"(split (pair 0 (thunk (force 0))) x y (force 1))", "(force 0)"},
		{"(both (force 0) (force 1))", "(force 0)"}, {"(both (return 0) (force 1))", "(force 1)"}, {"(try (force 1) (force 0))", "(force 1)"}, {"(try (lam x b (return x)) (force 0))", "(force 0)"}, {"(pair (thunk (force 0)) (thunk (force 1)))", "(force 0)"}, {"(pair 0 (thunk (force 1)))", "(force 1)"},
		{"(app (return 0) (thunk (force 0)))", "(force 0)"}, {"(app (force 1) (thunk (force 0)))", "(force 1)"}, {"(app (fst (return 0)) (thunk (force 0)))", "(fst (return 0))"},
		{"(if (thunk (force 0)) (force 1) (return 0))", "(force 0)"}, {"(if (pair 0 1) (force 1) (force 0))", "(force 1)"}, {"(if (pair 0 1) (return 1) (force 0))", "(force 0)"}, {"(if 0 (fst (return 0)) (force 0))", "(fst (return 0))"},
		{"(put (pair 0 1) (force 0))", "(force 0)"}, {"(put (thunk (force 1)) (force 0))", "(force 1)"}, {"(fst (snd (return 0)))", "(snd (return 0))"}, {"(force (thunk (force 0)))", "(force 0)"}, {"(return (thunk (force 0)))", "(force 0)"}, {"(snd (both (return 0) (force 0)))", "(force 0)"},
		{"(try (to (lam x b (return 0)) y (force 0)) (force 1))", "(to (lam x b (return 0)) y (force 0))"},
		// a part that is written alike but stands where it has a type
		{"(both (to (return (thunk (return 0))) x (force x)) (to (return 0) x (force x)))", "(force x)"}, {"(both (get x (return x)) (lam x (u (f b)) (get x (force x))))", "(force x)"}, {"(lam x (u (f b)) (both (force x) (split x x y (force x))))", "(split x x y (force x))"},
		// a type, or no closed term
		{"(return 0)", ""}, {"0", ""}, {"(fail (f b))", ""}, {"(thunk (lam x b (return x)))", ""}, {"x", ""}, {"(force x)", ""}, {"(both (force 0) (return x))", ""}, {"(lam x b (force y))", ""}, {"(return (return 0))", ""}, {"(f b)", ""}, {"b", ""},
	} {
		want := strings.Replace(w.want, whole, w.s, 1)
		if fault, ok := impl.TermFault(w.s); fault != want || ok != (want != "") {
			t.Errorf("TermFault(%s) = %s, %v, want %s", w.s, fault, ok, want)
		}
	}
}

// TestLargeTermsHaveTypes types terms at the limits of their size, with a type and without.
func TestLargeTermsHaveTypes(t *testing.T) {
	deep := strings.Repeat("(try (return (pair 0 1)) ", 98)
	wantType(t, madeEnv{}, deep+"(return (pair 0 1))"+strings.Repeat(")", 98), "(f (* b b))")
	wantType(t, madeEnv{}, deep+"(return 0)"+strings.Repeat(")", 98), "")
	wide := allOf("try", append(slices.Repeat([]string{"(return 0)"}, 497), "(force (thunk (return 0)))", "(force (thunk (return 0)))"))
	if impl.TermSize(wide) != impl.TermMax {
		t.Fatalf("a term of %d atoms", impl.TermSize(wide))
	}
	wantType(t, madeEnv{}, wide, "(f b)")
	for _, s := range textsAtLimits() {
		if impl.TermClosed(s) {
			fault, ok := impl.TermFault(s)
			if ok == impl.TermTyped(s) || impl.TermSize(fault) > impl.TermSize(s) {
				t.Errorf("TermFault(%s) = %s, %v", quoted(s), quoted(fault), ok)
			}
		}
	}
	large := computationOfAtoms(impl.TermMax)
	if fault, ok := impl.TermFault(large); !ok || fault == large || !strings.Contains(large, fault) {
		t.Errorf("TermFault(%s) = %s, %v", quoted(large), fault, ok)
	}
	for _, s := range textsBeyondLimits() {
		wantType(t, madeEnv{}, s, "")
		wantNoFault(t, s)
	}
}

func TestPureTerms(t *testing.T) {
	effects := []string{"(get g (return g))", "(get g (return 0))", "(put 0 (return 0))", "(fail (f b))", "(try (return 0) (return 1))"}
	for _, effect := range effects {
		for _, s := range []string{
			"M", "(thunk M)", "(pair 0 (thunk M))", "(pair (thunk M) 0)", "(return (thunk M))", "(to M x (return 0))", "(to (return 0) x M)", "(force (thunk M))", "(lam x b M)", "(app M 0)", "(app (lam x (u (f b)) (return 0)) (thunk M))",
			"(if 0 M (return 0))", "(if 0 (return 0) M)", "(if z M (return 0))", "(split x x y M)", "(both M (return 0))", "(both (return 0) M)", "(fst M)", "(snd M)", "(return (pair 0 (pair 0 (thunk (lam x b (snd M))))))",
		} {
			pure, impure := strings.Replace(s, "M", "(return g)", 1), strings.Replace(s, "M", effect, 1)
			if !impl.TermPure(pure) || impl.TermPure(impure) {
				t.Errorf("TermPure(%s) = %v, TermPure(%s) = %v", pure, impl.TermPure(pure), impure, impl.TermPure(impure))
			}
		}
	}
	// It asks for no type, and for no closed term.
	for _, s := range []string{"x", "0", "g", "p", "t", "f", "(pair x 1)", "(force 0)", "(fst (return 0))", "(to (lam x b (return x)) g (force p))", "(lam g (u (f b)) (force g))"} {
		if !impl.TermPure(s) {
			t.Errorf("TermPure(%s) = false", s)
		}
	}
	for _, s := range []string{"", "get", "put", "fail", "try", "return", "(get x x)", "(b)", "(f b)", "(u (f b))", "x1000", "(return (return 0))"} {
		if impl.TermPure(s) {
			t.Errorf("TermPure(%s) = true", s)
		}
	}
}

func TestEnvironmentsAreNotChanged(t *testing.T) {
	names, types := make([]string, 3, 10), make([]string, 3, 10)
	copy(names[:10], strings.Fields("x y x p q r s t u v"))
	copy(types[:10], []string{"b", "(* b b)", "(u (f b))", "p", "q", "r", "s", "t", "u", "v"})
	wantNames, wantTypes := slices.Clone(names[:10]), slices.Clone(types[:10])
	for range 3 {
		e := madeEnv{names, types}
		wantType(t, e, "(get y (to (force x) x (return (pair x y))))", "(f (* b b))")
		wantType(t, e, "(force y)", "")
		if typ, ok := impl.EnvLook(names, types, "x"); !ok || typ != "(u (f b))" || !impl.EnvValid(names, types) {
			t.Errorf("EnvLook of x = %s, %v", typ, ok)
		}
	}
	if !slices.Equal(names[:10], wantNames) || !slices.Equal(types[:10], wantTypes) {
		t.Errorf("an environment was changed to %q, %q", names[:10], types[:10])
	}
}
