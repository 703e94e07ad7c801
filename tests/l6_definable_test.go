package tests

import (
	"slices"
	"strings"
	"testing"

	"loop.example/pushvalue/impl"
)

// The tables of this file are worked out by hand from the document's text.

// wantDefined wants that a term is the defining term of an element, with all that the chapter says of it.
func wantDefined(t *testing.T, typ string, k int, want string) {
	t.Helper()
	if s, ok := impl.Define(typ, k); !ok || s != want {
		t.Errorf("Define(%s, %d) = %s, %v, want %s", typ, k, s, ok, want)
	}
	if size := impl.DefineSize(typ, k); size != len(strings.Fields(want)) {
		t.Errorf("DefineSize(%s, %d) = %d, want %d", typ, k, size, len(strings.Fields(want)))
	}
	if s, ok := impl.DefineAgain(want); !ok || s != want {
		t.Errorf("DefineAgain(%s) = %s, %v", want, s, ok)
	}
	wantElement(t, want, typ, k)
}

func TestDefiningTerms(t *testing.T) {
	for _, w := range []struct {
		typ  string
		k    int
		want string
	}{
		{"b", 0, "0"}, {"b", 1, "1"},
		{"(* b b)", 0, "(pair 0 0)"}, {"(* b b)", 1, "(pair 0 1)"}, {"(* b b)", 2, "(pair 1 0)"}, {"(* b b)", 3, "(pair 1 1)"}, {"(* b (* b b))", 6, "(pair 1 (pair 1 0))"}, {"(* (* b b) b)", 6, "(pair (pair 1 1) 0)"}, {"(* (* b b) b)", 3, "(pair (pair 0 1) 1)"},
		// an outcome for each state, that of 1 first
		{"(f b)", 0, "(get k0 (if k0 (fail (f b)) (fail (f b))))"}, {"(f b)", 1, "(get k0 (if k0 (fail (f b)) (put 0 (return 0))))"}, {"(f b)", 2, "(get k0 (if k0 (fail (f b)) (put 0 (return 1))))"}, {"(f b)", 3, "(get k0 (if k0 (fail (f b)) (put 1 (return 0))))"}, {"(f b)", 4, "(get k0 (if k0 (fail (f b)) (put 1 (return 1))))"},
		{"(f b)", 5, "(get k0 (if k0 (put 0 (return 0)) (fail (f b))))"}, {"(f b)", 13, "(get k0 (if k0 (put 0 (return 1)) (put 1 (return 0))))"}, {"(f b)", 16, "(get k0 (if k0 (put 1 (return 0)) (put 0 (return 0))))"}, {"(f b)", 22, "(get k0 (if k0 (put 1 (return 1)) (put 0 (return 1))))"}, {"(f b)", 24, "(get k0 (if k0 (put 1 (return 1)) (put 1 (return 1))))"},
		{"(f (* b b))", 0, "(get k0 (if k0 (fail (f (* b b))) (fail (f (* b b)))))"}, {"(f (* b b))", 57, "(get k0 (if k0 (put 1 (return (pair 0 1))) (put 0 (return (pair 1 0)))))"}, {"(f (* b b))", 80, "(get k0 (if k0 (put 1 (return (pair 1 1))) (put 1 (return (pair 1 1)))))"}, {"(f (* b (* b b)))", 288, "(get k0 (if k0 (put 1 (return (pair 1 (pair 1 1)))) (put 1 (return (pair 1 (pair 1 1))))))"},
		// suspended computations, alone and in pairs
		{"(u (f b))", 13, "(thunk (get k0 (if k0 (put 0 (return 1)) (put 1 (return 0)))))"}, {"(* b (u (f b)))", 30, "(pair 1 (thunk (get k0 (if k0 (put 0 (return 0)) (fail (f b))))))"}, {"(* (u (f b)) b)", 27, "(pair (thunk (get k0 (if k0 (put 0 (return 1)) (put 1 (return 0))))) 1)"},
		{"(* (u (f b)) (u (f b)))", 326, "(pair (thunk (get k0 (if k0 (put 0 (return 1)) (put 1 (return 0))))) (thunk (get k1 (if k1 (fail (f b)) (put 0 (return 0))))))"},
		// choices, and suspended ones
		{"(& (f b) (f b))", 326, "(both (get k0 (if k0 (put 0 (return 1)) (put 1 (return 0)))) (get k1 (if k1 (fail (f b)) (put 0 (return 0)))))"}, {"(& (f b) (f b))", 624, "(both (get k0 (if k0 (put 1 (return 1)) (put 1 (return 1)))) (get k1 (if k1 (put 1 (return 1)) (put 1 (return 1)))))"},
		{"(& (f b) (f (* b b)))", 1110, "(both (get k0 (if k0 (put 0 (return 1)) (put 1 (return 0)))) (get k1 (if k1 (put 1 (return (pair 0 1))) (put 0 (return (pair 1 0))))))"}, {"(& (f (* b b)) (f b))", 1438, "(both (get k0 (if k0 (put 1 (return (pair 0 1))) (put 0 (return (pair 1 0))))) (get k1 (if k1 (put 0 (return 1)) (put 1 (return 0)))))"},
		{"(u (& (f b) (f b)))", 5, "(thunk (both (get k0 (if k0 (fail (f b)) (fail (f b)))) (get k1 (if k1 (put 0 (return 0)) (fail (f b))))))"},
		// suspended computations that are returned, and suspended ones that return suspended ones
		{"(f (u (f b)))", 0, "(get k0 (if k0 (fail (f (u (f b)))) (fail (f (u (f b))))))"}, {"(f (u (f b)))", 31, "(get k0 (if k0 (fail (f (u (f b)))) (put 1 (return (thunk (get k1 (if k1 (put 0 (return 0)) (fail (f b)))))))))"},
		{"(f (u (f b)))", 745, "(get k0 (if k0 (put 0 (return (thunk (get k1 (if k1 (put 0 (return 1)) (put 1 (return 0))))))) (put 1 (return (thunk (get k2 (if k2 (put 0 (return 0)) (fail (f b)))))))))"}, {"(f (u (f b)))", 2600, "(get k0 (if k0 (put 1 (return (thunk (get k1 (if k1 (put 1 (return 1)) (put 1 (return 1))))))) (put 1 (return (thunk (get k2 (if k2 (put 1 (return 1)) (put 1 (return 1)))))))))"},
		{"(u (f (u (f b))))", 714, "(thunk (get k0 (if k0 (put 0 (return (thunk (get k1 (if k1 (put 0 (return 1)) (put 1 (return 0))))))) (fail (f (u (f b)))))))"},
		// functions, and suspended ones
		{"(> b (f b))", 138, "(lam k0 b (to (if k0 (return 0) (return 1)) k1 (if k1 (get k2 (if k2 (put 0 (return 1)) (put 1 (return 0)))) (get k3 (if k3 (put 0 (return 0)) (fail (f b)))))))"}, {"(> b (f b))", 0, "(lam k0 b (to (if k0 (return 0) (return 1)) k1 (if k1 (get k2 (if k2 (fail (f b)) (fail (f b)))) (get k3 (if k3 (fail (f b)) (fail (f b)))))))"},
		{"(u (> b (f b)))", 624, "(thunk (lam k0 b (to (if k0 (return 0) (return 1)) k1 (if k1 (get k2 (if k2 (put 1 (return 1)) (put 1 (return 1)))) (get k3 (if k3 (put 1 (return 1)) (put 1 (return 1))))))))"}, {"(* (u (> b (f b))) b)", 277, "(pair (thunk (lam k0 b (to (if k0 (return 0) (return 1)) k1 (if k1 (get k2 (if k2 (put 0 (return 1)) (put 1 (return 0)))) (get k3 (if k3 (put 0 (return 0)) (fail (f b)))))))) 1)"},
	} {
		wantDefined(t, w.typ, w.k, w.want)
	}
}

// wantValueTest wants that a text is the test of x for an element.
func wantValueTest(t *testing.T, typ string, k int, want string) {
	t.Helper()
	if s, ok := impl.TestValue(typ, k); !ok || s != want {
		t.Errorf("TestValue(%s, %d) = %s, %v, want %s", typ, k, s, ok, want)
	}
	for _, other := range append(neighbours(typ, k), k) {
		wantIn(t, meantEnv{}.with("x", typ, other), want, told(other == k))
	}
}

func TestTestsOfBitsAndPairs(t *testing.T) {
	for _, w := range []struct {
		typ  string
		k    int
		want string
	}{
		{"b", 0, "(if x (return 0) (return 1))"}, {"b", 1, "(return x)"},
		{"(* b b)", 0, "(split x k0 k1 (to (if k0 (return 0) (return 1)) k2 (if k2 (if k1 (return 0) (return 1)) (return 0))))"}, {"(* b b)", 1, "(split x k0 k1 (to (if k0 (return 0) (return 1)) k2 (if k2 (return k1) (return 0))))"},
		{"(* b b)", 2, "(split x k0 k1 (to (return k0) k2 (if k2 (if k1 (return 0) (return 1)) (return 0))))"}, {"(* b b)", 3, "(split x k0 k1 (to (return k0) k2 (if k2 (return k1) (return 0))))"},
		{"(* b (* b b))", 5, "(split x k0 k1 (to (return k0) k2 (if k2 (split k1 k3 k4 (to (if k3 (return 0) (return 1)) k5 (if k5 (return k4) (return 0)))) (return 0))))"},
		{"(* (* b b) b)", 5, "(split x k0 k1 (to (split k0 k2 k3 (to (return k2) k4 (if k4 (if k3 (return 0) (return 1)) (return 0)))) k5 (if k5 (return k1) (return 0))))"},
		{"(* (* b b) (* b b))", 6, "(split x k0 k1 (to (split k0 k2 k3 (to (if k2 (return 0) (return 1)) k4 (if k4 (return k3) (return 0)))) k5 (if k5 (split k1 k6 k7 (to (return k6) k8 (if k8 (if k7 (return 0) (return 1)) (return 0)))) (return 0))))"},
	} {
		wantValueTest(t, w.typ, w.k, w.want)
	}
}

func TestTestsOfSuspendedComputations(t *testing.T) {
	for _, w := range []struct {
		typ  string
		k    int
		want string
	}{
		// failures for both states and for one alone
		{"(u (f b))", 0, "(get k0 (put 0 (to (try (to (force x) k3 (return 0)) (return 1)) k1 (put 1 (to (try (to (force x) k4 (return 0)) (return 1)) k2 (put k0 (if k1 (return k2) (return 0))))))))"},
		{"(u (f b))", 1, "(get k0 (put 0 (to (try (to (force x) k3 (to (if k3 (return 0) (return 1)) k4 (get k5 (if k4 (if k5 (return 0) (return 1)) (return 0))))) (return 0)) k1 (put 1 (to (try (to (force x) k6 (return 0)) (return 1)) k2 (put k0 (if k1 (return k2) (return 0))))))))"},
		{"(u (f b))", 5, "(get k0 (put 0 (to (try (to (force x) k3 (return 0)) (return 1)) k1 (put 1 (to (try (to (force x) k4 (to (if k4 (return 0) (return 1)) k5 (get k6 (if k5 (if k6 (return 0) (return 1)) (return 0))))) (return 0)) k2 (put k0 (if k1 (return k2) (return 0))))))))"},
		// the state left as it was, and the other one left behind
		{"(u (f b))", 22, "(get k0 (put 0 (to (try (to (force x) k3 (to (return k3) k4 (get k5 (if k4 (if k5 (return 0) (return 1)) (return 0))))) (return 0)) k1 (put 1 (to (try (to (force x) k6 (to (return k6) k7 (get k8 (if k7 (return k8) (return 0))))) (return 0)) k2 (put k0 (if k1 (return k2) (return 0))))))))"},
		{"(u (f b))", 13, "(get k0 (put 0 (to (try (to (force x) k3 (to (if k3 (return 0) (return 1)) k4 (get k5 (if k4 (return k5) (return 0))))) (return 0)) k1 (put 1 (to (try (to (force x) k6 (to (return k6) k7 (get k8 (if k7 (if k8 (return 0) (return 1)) (return 0))))) (return 0)) k2 (put k0 (if k1 (return k2) (return 0))))))))"},
		// pairs that are returned: the names of their tests come behind those of the check
		{"(u (f (* b b)))", 57, "(get k0 (put 0 (to (try (to (force x) k3 (to (split k3 k6 k7 (to (return k6) k8 (if k8 (if k7 (return 0) (return 1)) (return 0)))) k4 (get k5 (if k4 (if k5 (return 0) (return 1)) (return 0))))) (return 0)) k1 (put 1 (to (try (to (force x) k9 (to (split k9 k12 k13 (to (if k12 (return 0) (return 1)) k14 (if k14 (return k13) (return 0)))) k10 (get k11 (if k10 (return k11) (return 0))))) (return 0)) k2 (put k0 (if k1 (return k2) (return 0))))))))"},
		// suspended ones in pairs
		{"(* b (u (f b)))", 25, "(split x k0 k1 (to (return k0) k2 (if k2 (get k3 (put 0 (to (try (to (force k1) k6 (return 0)) (return 1)) k4 (put 1 (to (try (to (force k1) k7 (return 0)) (return 1)) k5 (put k3 (if k4 (return k5) (return 0)))))))) (return 0))))"},
		{"(* (u (f b)) b)", 1, "(split x k0 k1 (to (get k2 (put 0 (to (try (to (force k0) k5 (return 0)) (return 1)) k3 (put 1 (to (try (to (force k0) k6 (return 0)) (return 1)) k4 (put k2 (if k3 (return k4) (return 0)))))))) k7 (if k7 (return k1) (return 0))))"},
		// suspended ones that return suspended ones
		{"(u (f (u (f b))))", 1326, "(get k0 (put 0 (to (try (to (force x) k3 (return 0)) (return 1)) k1 (put 1 (to (try (to (force x) k4 (to (get k7 (put 0 (to (try (to (force k4) k10 (return 0)) (return 1)) k8 (put 1 (to (try (to (force k4) k11 (return 0)) (return 1)) k9 (put k7 (if k8 (return k9) (return 0)))))))) k5 (get k6 (if k5 (return k6) (return 0))))) (return 0)) k2 (put k0 (if k1 (return k2) (return 0))))))))"},
		// suspended functions: for 0 they fail and for 1 just from the state 1
		{"(u (> b (f b)))", 25, "(to (get k0 (put 0 (to (try (to (app (force x) 0) k3 (return 0)) (return 1)) k1 (put 1 (to (try (to (app (force x) 0) k4 (return 0)) (return 1)) k2 (put k0 (if k1 (return k2) (return 0)))))))) k5 (if k5 (get k6 (put 0 (to (try (to (app (force x) 1) k9 (to (if k9 (return 0) (return 1)) k10 (get k11 (if k10 (if k11 (return 0) (return 1)) (return 0))))) (return 0)) k7 (put 1 (to (try (to (app (force x) 1) k12 (return 0)) (return 1)) k8 (put k6 (if k7 (return k8) (return 0)))))))) (return 0)))"},
		// suspended choices
		{"(u (& (f b) (f b)))", 25, "(to (get k0 (put 0 (to (try (to (fst (force x)) k3 (to (if k3 (return 0) (return 1)) k4 (get k5 (if k4 (if k5 (return 0) (return 1)) (return 0))))) (return 0)) k1 (put 1 (to (try (to (fst (force x)) k6 (return 0)) (return 1)) k2 (put k0 (if k1 (return k2) (return 0)))))))) k7 (if k7 (get k8 (put 0 (to (try (to (snd (force x)) k11 (return 0)) (return 1)) k9 (put 1 (to (try (to (snd (force x)) k12 (return 0)) (return 1)) k10 (put k8 (if k9 (return k10) (return 0)))))))) (return 0)))"},
	} {
		wantValueTest(t, w.typ, w.k, w.want)
	}
}

func TestTestsOfComputations(t *testing.T) {
	for _, w := range []struct {
		s    string
		k    int
		want string
	}{
		{"(fail (f b))", 0, "(get k0 (put 0 (to (try (to (fail (f b)) k3 (return 0)) (return 1)) k1 (put 1 (to (try (to (fail (f b)) k4 (return 0)) (return 1)) k2 (put k0 (if k1 (return k2) (return 0))))))))"},
		{"(return 1)", 22, "(get k0 (put 0 (to (try (to (return 1) k3 (to (return k3) k4 (get k5 (if k4 (if k5 (return 0) (return 1)) (return 0))))) (return 0)) k1 (put 1 (to (try (to (return 1) k6 (to (return k6) k7 (get k8 (if k7 (return k8) (return 0))))) (return 0)) k2 (put k0 (if k1 (return k2) (return 0))))))))"},
		{"(return 0)", 22, "(get k0 (put 0 (to (try (to (return 0) k3 (to (return k3) k4 (get k5 (if k4 (if k5 (return 0) (return 1)) (return 0))))) (return 0)) k1 (put 1 (to (try (to (return 0) k6 (to (return k6) k7 (get k8 (if k7 (return k8) (return 0))))) (return 0)) k2 (put k0 (if k1 (return k2) (return 0))))))))"},
		// the names of the computation stay as they are, even if they look like new ones
		{"(get k0 (put k0 (return k0)))", 20, "(get k0 (put 0 (to (try (to (get k0 (put k0 (return k0))) k3 (return 0)) (return 1)) k1 (put 1 (to (try (to (get k0 (put k0 (return k0))) k4 (to (return k4) k5 (get k6 (if k5 (return k6) (return 0))))) (return 0)) k2 (put k0 (if k1 (return k2) (return 0))))))))"},
		{"(return (pair 0 1))", 54, "(get k0 (put 0 (to (try (to (return (pair 0 1)) k3 (return 0)) (return 1)) k1 (put 1 (to (try (to (return (pair 0 1)) k4 (to (split k4 k7 k8 (to (if k7 (return 0) (return 1)) k9 (if k9 (return k8) (return 0)))) k5 (get k6 (if k5 (return k6) (return 0))))) (return 0)) k2 (put k0 (if k1 (return k2) (return 0))))))))"},
		{"(return (thunk (return 0)))", 26, "(get k0 (put 0 (to (try (to (return (thunk (return 0))) k3 (to (get k6 (put 0 (to (try (to (force k3) k9 (return 0)) (return 1)) k7 (put 1 (to (try (to (force k3) k10 (return 0)) (return 1)) k8 (put k6 (if k7 (return k8) (return 0)))))))) k4 (get k5 (if k4 (return k5) (return 0))))) (return 0)) k1 (put 1 (to (try (to (return (thunk (return 0))) k11 (return 0)) (return 1)) k2 (put k0 (if k1 (return k2) (return 0))))))))"},
		{"(lam k5 b (return k5))", 20, "(to (get k0 (put 0 (to (try (to (app (lam k5 b (return k5)) 0) k3 (return 0)) (return 1)) k1 (put 1 (to (try (to (app (lam k5 b (return k5)) 0) k4 (to (return k4) k5 (get k6 (if k5 (return k6) (return 0))))) (return 0)) k2 (put k0 (if k1 (return k2) (return 0)))))))) k7 (if k7 (get k8 (put 0 (to (try (to (app (lam k5 b (return k5)) 1) k11 (return 0)) (return 1)) k9 (put 1 (to (try (to (app (lam k5 b (return k5)) 1) k12 (return 0)) (return 1)) k10 (put k8 (if k9 (return k10) (return 0)))))))) (return 0)))"},
		{"(both (return 0) (return 1))", 0, "(to (get k0 (put 0 (to (try (to (fst (both (return 0) (return 1))) k3 (return 0)) (return 1)) k1 (put 1 (to (try (to (fst (both (return 0) (return 1))) k4 (return 0)) (return 1)) k2 (put k0 (if k1 (return k2) (return 0)))))))) k5 (if k5 (get k6 (put 0 (to (try (to (snd (both (return 0) (return 1))) k9 (return 0)) (return 1)) k7 (put 1 (to (try (to (snd (both (return 0) (return 1))) k10 (return 0)) (return 1)) k8 (put k6 (if k7 (return k8) (return 0)))))))) (return 0)))"},
	} {
		if s, ok := impl.TestComp(w.s, w.k); !ok || s != w.want {
			t.Errorf("TestComp(%s, %d) = %s, %v, want %s", w.s, w.k, s, ok, w.want)
		}
		k, _ := impl.Denote(w.s)
		wantElement(t, w.want, "(f b)", told(k == w.k))
		wantTold(t, w.want, k == w.k)
	}
}

// wantTold wants that runs of a test return a bit and leave the state.
func wantTold(t *testing.T, s string, bit bool) {
	t.Helper()
	for state := range 2 {
		if print, left, _, ok := impl.Run(s, state, impl.FuelMax); !ok || print != toldPrint(bit) || left != state {
			t.Errorf("Run(%s, %d) = %s, %d, %v, want %s", quoted(s), state, print, left, ok, toldPrint(bit))
		}
	}
}

func TestComputationsThatAreToldApart(t *testing.T) {
	for _, w := range []struct{ what, a, b string }{
		{"what is returned", "(return 0)", "(return 1)"}, {"a part of what is returned", "(return (pair 0 1))", "(return (pair 0 0))"},
		{"for one state alone", "(get x (return x))", "(return 1)"}, {"a failure for the state 1 alone", "(get x (if x (fail (f b)) (return 0)))", "(return 0)"}, {"a failure for the state 0 alone", "(return 1)", "(get x (if x (return 1) (fail (f b))))"}, {"a failure", "(fail (f b))", "(return 0)"}, {"failures for either state", "(get x (if x (fail (f b)) (return 0)))", "(get x (if x (return 0) (fail (f b))))"},
		{"the state behind alone", "(return 0)", "(put 0 (return 0))"}, {"the state behind 0 alone", "(return 1)", "(get x (if x (return 1) (put 1 (return 1))))"}, {"the state behind both", "(put 0 (return 0))", "(put 1 (return 0))"}, {"the state behind, changed", "(return 0)", "(get x (if x (put 0 (return 0)) (put 1 (return 0))))"},
		{"for one element alone", "(lam x b (return x))", "(lam x b (return 1))"}, {"for the element 1 alone", "(lam x b (return 0))", "(lam x b (return x))"}, {"for one element and one state", "(lam x b (return x))", "(lam x b (if x (get s (return s)) (return 0)))"}, {"the state behind for one element", "(lam x b (return x))", "(lam x b (if x (put 0 (return 1)) (return 0)))"}, {"a failure for one element", "(lam x b (return x))", "(lam x b (if x (fail (f b)) (return 0)))"},
		{"the first part", "(both (return 0) (return 0))", "(both (return 1) (return 0))"}, {"the second part", "(both (return 0) (return 0))", "(both (return 0) (put 1 (return 0)))"}, {"parts exchanged", "(both (return 0) (return 1))", "(both (return 1) (return 0))"}, {"the last part of pairs", "(both (return 0) (return (pair 1 1)))", "(both (return 0) (return (pair 1 0)))"},
		{"what is suspended", "(return (thunk (return 0)))", "(return (thunk (return 1)))"}, {"the state behind what is suspended", "(return (thunk (return 0)))", "(return (thunk (put 0 (return 0))))"}, {"a failure when it is forced", "(return (thunk (fail (f b))))", "(fail (f (u (f b))))"}, {"what goes by the state when it is forced", "(return (thunk (get x (return x))))", "(get x (return (thunk (return x))))"},
	} {
		for _, pair := range [][2]string{{w.a, w.b}, {w.b, w.a}} {
			first, second, ok := impl.Separate(pair[0], pair[1])
			if !ok {
				t.Errorf("%s: Separate(%s, %s) fails", w.what, pair[0], pair[1])
				continue
			}
			wantSeparated(t, pair[0], pair[1], first, second)
		}
	}
	first, second, ok := impl.Separate("(fail (f b))", "(return 0)")
	of := func(m string) string {
		return "(get k0 (put 0 (to (try (to " + m + " k3 (return 0)) (return 1)) k1 (put 1 (to (try (to " + m + " k4 (return 0)) (return 1)) k2 (put k0 (if k1 (return k2) (return 0))))))))"
	}
	if !ok || first != of("(fail (f b))") || second != of("(return 0)") {
		t.Errorf("Separate = %s, %s, %v", first, second, ok)
	}
}

// wantSeparated wants that two tests are those of two computations for what the first one means, and that they tell them apart.
func wantSeparated(t *testing.T, a, b, first, second string) {
	t.Helper()
	k, _ := impl.Denote(a)
	ofA, okA := impl.TestComp(a, k)
	ofB, okB := impl.TestComp(b, k)
	if !okA || !okB || ofA != first || ofB != second || impl.MeaningSame(a, b) {
		t.Errorf("Separate(%s, %s) = %s, %s, want %s, %s", a, b, first, second, ofA, ofB)
	}
	if !impl.MeaningSame(first, "(return 1)") || !impl.MeaningSame(second, "(return 0)") {
		t.Errorf("Separate(%s, %s) = %s, %s, which do not mean 1 and 0", a, b, first, second)
	}
	wantTold(t, first, true)
	wantTold(t, second, false)
}

func TestComputationsThatAreNotToldApart(t *testing.T) {
	for _, w := range [][2]string{
		// the same meaning
		{"(return 0)", "(return 0)"}, {"(return 0)", "(force (thunk (return 0)))"}, {"(return 1)", "(get x (if x (return x) (return 1)))"}, {"(lam x b (return x))", "(lam y b (if y (return 1) (return 0)))"}, {"(both (return 0) (return 1))", "(both (fst (both (return 0) (return 0))) (return 1))"}, {"(fail (f b))", "(put 1 (fail (f b)))"}, {"(return (thunk (return 0)))", "(return (thunk (get x (put x (return 0)))))"},
		// two types
		{"(return 0)", "(return (pair 0 0))"}, {"(fail (f b))", "(fail (f (* b b)))"}, {"(return 0)", "(lam x b (return 0))"}, {"(lam x b (return 0))", "(both (return 0) (return 0))"}, {"(fail (f b))", "(fail (f (u (f b))))"}, {"(return (pair (pair 0 0) 0))", "(return (pair 1 (pair 1 1)))"}, {"(both (return 0) (return (pair 0 0)))", "(both (return (pair 0 0)) (return 0))"},
		// values
		{"0", "1"}, {"0", "0"}, {"(pair 0 1)", "(pair 1 0)"}, {"(thunk (return 0))", "(thunk (return 1))"}, {"(thunk (return 0))", "(return 1)"}, {"0", "(return 1)"},
	} {
		wantNotSeparated(t, w[0], w[1])
	}
	for _, s := range slices.Concat(notMeant(), notClosedComputations()) {
		for _, fine := range []string{"(return 0)", "(lam x b (return x))", s} {
			wantNotSeparated(t, s, fine)
		}
	}
}

func wantNotSeparated(t *testing.T, a, b string) {
	t.Helper()
	for _, pair := range [][2]string{{a, b}, {b, a}} {
		if first, second, ok := impl.Separate(pair[0], pair[1]); ok || first != "" || second != "" {
			t.Errorf("Separate(%s, %s) = %s, %s, %v", quoted(pair[0]), quoted(pair[1]), quoted(first), quoted(second), ok)
		}
	}
}

func TestTermsThatAreDefinedAgain(t *testing.T) {
	for _, w := range [][2]string{
		{"0", "0"}, {"(pair 1 (pair 0 1))", "(pair 1 (pair 0 1))"}, {"(return 0)", "(get k0 (if k0 (put 1 (return 0)) (put 0 (return 0))))"}, {"(thunk (return 1))", "(thunk (get k0 (if k0 (put 1 (return 1)) (put 0 (return 1)))))"}, {"(get x (put 1 (fail (f b))))", "(get k0 (if k0 (fail (f b)) (fail (f b))))"}, {"(get x (put x (if x (return x) (fail (f b)))))", "(get k0 (if k0 (put 1 (return 1)) (fail (f b))))"},
		{"(lam k3 b (return k3))", "(lam k0 b (to (if k0 (return 0) (return 1)) k1 (if k1 (get k2 (if k2 (put 1 (return 0)) (put 0 (return 0)))) (get k3 (if k3 (put 1 (return 1)) (put 0 (return 1)))))))"}, {"(pair 0 (thunk (fail (f b))))", "(pair 0 (thunk (get k0 (if k0 (fail (f b)) (fail (f b))))))"}, {"(fail (& (f b) (f b)))", "(both (get k0 (if k0 (fail (f b)) (fail (f b)))) (get k1 (if k1 (fail (f b)) (fail (f b)))))"},
		{"(try (fail (f b)) (app (lam x b (put 0 (return x))) 1))", "(get k0 (if k0 (put 0 (return 1)) (put 0 (return 1))))"}, {"(to (return (thunk (fail (f b)))) x (return (pair 0 1)))", "(get k0 (if k0 (put 1 (return (pair 0 1))) (put 0 (return (pair 0 1)))))"},
	} {
		if s, ok := impl.DefineAgain(w[0]); !ok || s != w[1] {
			t.Errorf("DefineAgain(%s) = %s, %v, want %s", w[0], s, ok, w[1])
		}
		if s, ok := impl.DefineAgain(w[1]); !ok || s != w[1] {
			t.Errorf("DefineAgain(%s) = %s, %v", w[1], s, ok)
		}
	}
}

// wantNoDefine wants that there is no defining term and no test of a value.
func wantNoDefine(t *testing.T, typ string, k int) {
	t.Helper()
	if s, ok := impl.Define(typ, k); ok || s != "" || impl.DefineSize(typ, k) != -1 {
		t.Errorf("Define(%s, %d) = %s, %v, DefineSize %d", quoted(typ), k, quoted(s), ok, impl.DefineSize(typ, k))
	}
	wantNoValueTest(t, typ, k)
}

func wantNoValueTest(t *testing.T, typ string, k int) {
	t.Helper()
	if s, ok := impl.TestValue(typ, k); ok || s != "" {
		t.Errorf("TestValue(%s, %d) = %s, %v", quoted(typ), k, quoted(s), ok)
	}
}

// wantNoTest wants that there is no test of a computation.
func wantNoTest(t *testing.T, s string, k int) {
	t.Helper()
	if test, ok := impl.TestComp(s, k); ok || test != "" {
		t.Errorf("TestComp(%s, %d) = %s, %v", quoted(s), k, quoted(test), ok)
	}
}

// wantNotDefinedAgain wants that a text is no closed term with a meaning.
func wantNotDefinedAgain(t *testing.T, s string) {
	t.Helper()
	if again, ok := impl.DefineAgain(s); ok || again != "" {
		t.Errorf("DefineAgain(%s) = %s, %v", quoted(s), quoted(again), ok)
	}
}

func TestTypesWithoutDefiningTerms(t *testing.T) {
	unknown := 0
	for _, w := range allTypes() {
		if w.count == -1 {
			unknown++
			for _, k := range []int{0, 1, -1, impl.CountMax} {
				wantNoDefine(t, w.text, k)
			}
			continue
		}
		for _, k := range noElements(w.count) {
			wantNoDefine(t, w.text, k)
		}
		if w.kind == "computation" {
			for _, k := range []int{0, 1, w.count - 1} {
				wantNoValueTest(t, w.text, k)
			}
		}
	}
	if unknown < 1000 {
		t.Errorf("just %d types have a count that is not known", unknown)
	}
	for _, typ := range []string{
		// functions from pairs, from suspended computations and to functions, choices of functions, and these suspended or returned
		"(> (* b b) (f b))", "(> (u (f b)) (f b))", "(> b (> b (f b)))", "(> b (f (* b b)))", "(> b (& (f b) (f b)))", "(& (> b (f b)) (f b))", "(& (f b) (> b (f b)))", "(& (> b (f b)) (> b (f b)))", "(u (> (* b b) (f b)))", "(u (& (> b (f b)) (f b)))", "(f (u (> b (f b))))", "(f (u (& (f b) (f b))))", "(f (* b (u (f b))))", "(* b (u (f (u (f b)))))",
	} {
		if countOf(typ) != -1 || impl.TypeKind(typ) == "" {
			t.Errorf("the count of %s is %d", typ, countOf(typ))
		}
		wantNoDefine(t, typ, 0)
	}
	for _, s := range slices.Concat(noTypes(), notMeant()) {
		wantNoDefine(t, s, 0)
		wantNoDefine(t, s, 1)
	}
}

func TestTermsWithoutTests(t *testing.T) {
	for _, s := range slices.Concat(notMeant(), notClosedComputations()) {
		for _, k := range []int{0, 1, 22, -1} {
			wantNoTest(t, s, k)
		}
		if !impl.TermKnown(s) {
			wantNotDefinedAgain(t, s)
		}
	}
	// values have no tests, but are defined again
	for _, s := range []string{"0", "1", "(pair 0 1)", "(thunk (return 0))", "(pair 0 (thunk (lam x b (return x))))"} {
		wantNoTest(t, s, 0)
		if _, ok := impl.DefineAgain(s); !ok {
			t.Errorf("DefineAgain(%s) fails", s)
		}
	}
	for _, w := range []struct {
		s     string
		count int
	}{{"(return 0)", 25}, {"(return (pair 0 1))", 81}, {"(lam x b (return x))", 625}, {"(both (return 0) (return 1))", 625}, {"(return (thunk (return 0)))", 2601}, {"(fail (& (f b) (f (* b b))))", 2025}} {
		for _, k := range noElements(w.count) {
			wantNoTest(t, w.s, k)
		}
		for _, k := range []int{0, w.count - 1} {
			if test, ok := impl.TestComp(w.s, k); !ok || !impl.TermTyped(test) {
				t.Errorf("TestComp(%s, %d) = %s, %v", w.s, k, test, ok)
			}
		}
	}
}
