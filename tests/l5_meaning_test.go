package tests

import (
	"math"
	"slices"
	"strings"
	"testing"

	"loop.example/pushvalue/impl"
)

// wantElements wants what closed terms mean, each of which stands ahead of its type and its element.
func wantElements(t *testing.T, terms []meantText) {
	t.Helper()
	for _, w := range terms {
		wantElement(t, w.s, w.typ, w.element)
		if typ, ok := impl.TermType(nil, nil, w.s); !ok || typ != w.typ {
			t.Errorf("TermType(%s) = %s, %v, want %s", w.s, typ, ok, w.typ)
		}
	}
}

// A meantText is the text of a closed term with its type and its element.
type meantText struct {
	s, typ  string
	element int
}

// The outcomes of (f b) are 0 for a failure, 1 and 2 for the bits behind the state 0, and 3 and 4 behind 1.
func TestMeaningsOfEachForm(t *testing.T) {
	wantElements(t, []meantText{
		{"0", "b", 0}, {"1", "b", 1}, {"(pair 1 0)", "(* b b)", 2}, {"(pair 0 (pair 1 1))", "(* b (* b b))", 3}, {"(pair (pair 1 0) 1)", "(* (* b b) b)", 5},
		{"(thunk (return 1))", "(u (f b))", 2 + 5*4}, {"(pair 1 (thunk (return 0)))", "(* b (u (f b)))", 25 + 16}, {"(pair (thunk (return 0)) 1)", "(* (u (f b)) b)", 2*16 + 1}, {"(thunk (lam x b (return x)))", "(u (> b (f b)))", 16 + 25*22},
		{"(return 0)", "(f b)", 1 + 5*3}, {"(return 1)", "(f b)", 2 + 5*4}, {"(return (pair 1 0))", "(f (* b b))", 3 + 9*7}, {"(return (thunk (return 1)))", "(f (u (f b)))", 1 + 22 + 51*(1+25+22)},
		{"(force (thunk (return 1)))", "(f b)", 22}, {"(force (thunk (lam x b (fail (f b)))))", "(> b (f b))", 0},
		{"(lam x b (return x))", "(> b (f b))", 16 + 25*22}, {"(lam x b (fail (f b)))", "(> b (f b))", 0}, {"(lam x b (if x (return 0) (fail (f b))))", "(> b (f b))", 25 * 16},
		{"(app (lam x b (return x)) 0)", "(f b)", 16}, {"(app (lam x b (return x)) 1)", "(f b)", 22}, {"(app (lam x b (if x (return 0) (fail (f b)))) 0)", "(f b)", 0},
		{"(both (return 0) (return 1))", "(& (f b) (f b))", 25*16 + 22}, {"(both (return (pair 1 0)) (return 1))", "(& (f (* b b)) (f b))", 25*66 + 22}, {"(both (return 1) (return (pair 1 0)))", "(& (f b) (f (* b b)))", 81*22 + 66},
		{"(fst (both (return 0) (return (pair 1 0))))", "(f b)", 16}, {"(snd (both (return 0) (return (pair 1 0))))", "(f (* b b))", 66},
		{"(if 1 (return 0) (return 1))", "(f b)", 16}, {"(if 0 (return 0) (return 1))", "(f b)", 22}, {"(if 1 (fail (f b)) (return 1))", "(f b)", 0},
		{"(split (pair 0 1) x y (return (pair y x)))", "(f (* b b))", 66}, {"(split (pair 0 1) x y (return (pair x y)))", "(f (* b b))", 2 + 9*6}, {"(split (pair 1 0) x y (return x))", "(f b)", 22}, {"(split (pair 1 0) x y (return y))", "(f b)", 16}, {"(split (pair 0 (thunk (return 1))) x y (force y))", "(f b)", 22},
		{"(get x (return x))", "(f b)", 1 + 5*4}, {"(get x (put 0 (return x)))", "(f b)", 1 + 5*2}, {"(get x (if x (put 0 (return x)) (put 1 (return x))))", "(f b)", 3 + 5*2},
		{"(put 0 (return 1))", "(f b)", 2 + 5*2}, {"(put 1 (return 0))", "(f b)", 3 + 5*3}, {"(put 0 (put 1 (return 1)))", "(f b)", 4 + 5*4}, {"(put 1 (get x (return x)))", "(f b)", 4 + 5*4},
		{"(fail (f b))", "(f b)", 0}, {"(fail (> b (f b)))", "(> b (f b))", 0}, {"(fail (& (f b) (f (* b b))))", "(& (f b) (f (* b b)))", 0}, {"(thunk (fail (f b)))", "(u (f b))", 0},
		{"(to (return 1) x (return x))", "(f b)", 22}, {"(to (put 1 (return 0)) x (return x))", "(f b)", 18}, {"(to (put 1 (return 0)) x (get y (return y)))", "(f b)", 24}, {"(to (get x (put 1 (return x))) y (get z (if y (return z) (fail (f b)))))", "(f b)", 5 * 4},
		{"(try (return 0) (return 1))", "(f b)", 16}, {"(try (fail (f b)) (return 1))", "(f b)", 22}, {"(try (fail (f b)) (fail (f b)))", "(f b)", 0}, {"(try (get x (if x (fail (f b)) (return 1))) (put 0 (return 0)))", "(f b)", 2 + 5*1},
	})
}

func TestFailuresForOneStateAlone(t *testing.T) {
	const fails1 = "(get s (if s (fail (f b)) (put 1 (return 0))))"
	const fails0 = "(get s (if s (put 0 (return 1)) (fail (f b))))"
	wantElements(t, []meantText{
		{fails1, "(f b)", 3}, {fails0, "(f b)", 5 * 2},
		{"(to " + fails1 + " x (return x))", "(f b)", 3}, {"(to " + fails0 + " x (return x))", "(f b)", 5 * 2}, {"(to " + fails1 + " x (get y (return y)))", "(f b)", 4}, {"(to " + fails0 + " x (get y (return (pair x y))))", "(f (* b b))", 9 * 3}, {"(to " + fails1 + " x " + fails0 + ")", "(f b)", 2}, {"(to " + fails0 + " x " + fails1 + ")", "(f b)", 5 * 3}, {"(to " + fails0 + " x " + fails0 + ")", "(f b)", 0},
		{"(to " + fails1 + " x (lam y b (return y)))", "(> b (f b))", 3 + 25*4}, {"(to " + fails0 + " x (lam y b (if y (return x) (fail (f b)))))", "(> b (f b))", 25 * 5 * 2}, {"(to " + fails1 + " x (both (return x) (get y (return y))))", "(& (f b) (f b))", 25*3 + 4}, {"(to (return 0) x (lam y b " + fails0 + "))", "(> b (f b))", 10 + 25*10},
		{"(try " + fails1 + " (return 1))", "(f b)", 3 + 5*4}, {"(try " + fails0 + " (return 1))", "(f b)", 2 + 5*2}, {"(try " + fails1 + " " + fails0 + ")", "(f b)", 3 + 5*2}, {"(try " + fails0 + " " + fails0 + ")", "(f b)", 5 * 2}, {"(put 1 " + fails1 + ")", "(f b)", 0}, {"(put 0 " + fails1 + ")", "(f b)", 3 + 5*3}, {"(return (thunk " + fails1 + "))", "(f (u (f b)))", 1 + 3 + 51*(1+25+3)},
		// The state goes back to what it was ahead of the try.
		{"(try (put 1 (fail (f b))) (get x (return x)))", "(f b)", 1 + 5*4}, {"(try (put 0 (to (put 1 (return 0)) x (fail (f b)))) (get x (return x)))", "(f b)", 1 + 5*4}, {"(try (get x (put 0 (if x (fail (f b)) (return 1)))) (get y (return y)))", "(f b)", 2 + 5*4}, {"(put 1 (try (put 0 (fail (f b))) (get x (return x))))", "(f b)", 4 + 5*4}, {"(try (try (put 1 (fail (f b))) (put 0 (fail (f b)))) (get x (return x)))", "(f b)", 1 + 5*4},
		{"(try (to (put 1 (return 0)) x " + fails1 + ") (get y (return y)))", "(f b)", 1 + 5*4}, {"(to (try (put 1 (fail (f b))) (return 0)) x (get y (return y)))", "(f b)", 1 + 5*4}, {"(lam x b (try (put x (fail (f b))) (get y (return y))))", "(> b (f b))", 21 + 25*21},
	})
}

func TestFunctionsAndChoicesAreFollowed(t *testing.T) {
	wantElements(t, []meantText{
		// to
		{"(to (get s (if s (fail (f b)) (return 1))) x (lam y b (return x)))", "(> b (f b))", 2 + 25*2}, {"(to (get s (put 1 (return s))) x (lam y b (get z (if y (return x) (return z)))))", "(> b (f b))", 4 + 5*4 + 25*(3+5*4)}, {"(to (fail (f b)) x (lam y b (return y)))", "(> b (f b))", 0}, {"(to (put 1 (return 0)) x (lam x b (return x)))", "(> b (f b))", 18 + 25*24},
		{"(to (get s (if s (return s) (fail (f b)))) x (both (return x) (put 0 (return 0))))", "(& (f b) (f b))", 25*5*4 + 5*1}, {"(to (get s (put 0 (return s))) x (both (return x) (return (pair 0 x))))", "(& (f b) (f (* b b)))", 81*(1+5*2) + 1 + 9*2}, {"(to (put 1 (return 1)) x (both (return (pair x 0)) (return x)))", "(& (f (* b b)) (f b))", 25*(7+9*7) + 24},
		// get
		{"(get x (lam y b (return x)))", "(> b (f b))", 21 + 25*21}, {"(get x (lam y b (if y (return x) (put x (return y)))))", "(> b (f b))", 16 + 25*21}, {"(get x (lam x b (return x)))", "(> b (f b))", 16 + 25*22}, {"(get x (if x (lam y b (return y)) (fail (> b (f b)))))", "(> b (f b))", 5*3 + 25*5*4}, {"(get x (if x (fail (> b (f b))) (lam y b (put 1 (return y)))))", "(> b (f b))", 3 + 25*4},
		{"(get x (both (return x) (put x (return 1))))", "(& (f b) (f b))", 25*21 + 22}, {"(get x (if x (both (return 0) (return 1)) (both (put 1 (return 1)) (fail (f b)))))", "(& (f b) (f b))", 25*(4+5*3) + 5*4}, {"(get x (both (return (pair x x)) (return x)))", "(& (f (* b b)) (f b))", 25*(1+9*8) + 21},
		// put
		{"(put 1 (lam y b (get z (return z))))", "(> b (f b))", 24 + 25*24}, {"(put 0 (lam y b (get z (if z (fail (f b)) (return y)))))", "(> b (f b))", 6 + 25*12}, {"(lam y b (put y (get z (return z))))", "(> b (f b))", 6 + 25*24}, {"(put 1 (fail (> b (f b))))", "(> b (f b))", 0},
		{"(put 0 (both (return 1) (get x (return x))))", "(& (f b) (f b))", 25*12 + 6}, {"(put 1 (both (get x (return x)) (get y (return (pair y 0)))))", "(& (f b) (f (* b b)))", 81*24 + 7 + 9*7},
		// within each other
		{"(put 1 (get x (put 0 (lam y b (get z (return x))))))", "(> b (f b))", 12 + 25*12}, {"(get x (put 1 (lam y b (get z (if z (return x) (return y))))))", "(> b (f b))", 23 + 25*23}, {"(get x (to (put 0 (return x)) y (both (return y) (get z (return z)))))", "(& (f b) (f b))", 25*(1+5*2) + 6}, {"(put 0 (to (get s (put 1 (return s))) x (get z (lam y b (if y (return x) (return z))))))", "(> b (f b))", 24 + 25*18},
		{"(to (to (put 1 (return 0)) x (get y (return y))) x (put 0 (both (return x) (get x (return x)))))", "(& (f b) (f b))", 25*12 + 6}, {"(to (try (put 1 (fail (f b))) (get s (if s (return 0) (fail (f b))))) x (get y (lam z b (put x (return y)))))", "(> b (f b))", 5*2 + 25*5*2},
		// followed by what is around
		{"(app (get x (lam y b (return x))) 0)", "(f b)", 21}, {"(app (put 1 (lam y b (get z (if y (return z) (put 0 (return y)))))) 0)", "(f b)", 6}, {"(app (put 1 (lam y b (get z (if y (return z) (put 0 (return y)))))) 1)", "(f b)", 24}, {"(app (to (get s (put 1 (return s))) x (lam y b (get z (if y (return x) (return z))))) 1)", "(f b)", 23},
		{"(fst (get x (both (return x) (return 0))))", "(f b)", 21}, {"(snd (to (put 1 (return 0)) x (both (fail (f b)) (get y (return y)))))", "(f b)", 24}, {"(fst (put 0 (both (get x (return x)) (return 1))))", "(f b)", 6}, {"(snd (put 0 (both (get x (return x)) (return 1))))", "(f b)", 12}, {"(to (app (get x (lam y b (put y (return x)))) 1) z (get w (return (pair z w))))", "(f (* b b))", 6 + 9*8},
		{"(app (put 1 (to (get s (return s)) x (get z (lam y b (if y (return x) (put 0 (return z))))))) 0)", "(f b)", 12},
		// behind names of functions and choices
		{"(split (pair (thunk (get x (lam y b (return x)))) 0) f y (put 1 (app (force f) y)))", "(f b)", 24}, {"(split (pair (thunk (get x (both (return x) (put 0 (return x))))) 1) c y (put y (snd (force c))))", "(f b)", 12}, {"(split (pair (thunk (put 1 (lam y b (get z (return z))))) 0) f y (lam z b (put 0 (app (force f) z))))", "(> b (f b))", 24 + 25*24}, {"(split (pair 1 (thunk (lam y b (put y (return 0))))) x f (app (get z (force f)) x))", "(f b)", 18},
	})
}

func TestNamesAndWhatTheyMean(t *testing.T) {
	wantElements(t, []meantText{
		// bound again
		{"(to (return 1) x (to (return 0) x (return x)))", "(f b)", 16}, {"(to (to (return 1) x (to (return 0) x (return x))) x (return x))", "(f b)", 16}, {"(to (return 1) x (to (to (return 0) x (return x)) y (return x)))", "(f b)", 22}, {"(lam x b (to (return 1) x (return x)))", "(> b (f b))", 22 + 25*22}, {"(lam x b (to (return x) y (to (return 0) x (return y))))", "(> b (f b))", 16 + 25*22},
		{"(get x (lam x b (get x (return x))))", "(> b (f b))", 21 + 25*21}, {"(lam x b (get y (return x)))", "(> b (f b))", 16 + 25*22}, {"(lam x b (get x (put 1 (return x))))", "(> b (f b))", 3 + 5*4 + 25*(3+5*4)}, {"(get x (put 1 (get x (return x))))", "(f b)", 24}, {"(get x (put 1 (get y (return x))))", "(f b)", 3 + 5*4}, {"(get x (app (lam x b (return x)) x))", "(f b)", 21}, {"(get x (app (lam x b (return x)) 1))", "(f b)", 22},
		{"(split (pair 1 (pair 0 1)) x y (split y y x (return (pair x y))))", "(f (* b b))", 66}, {"(split (pair 1 (pair 0 1)) x y (split y x y (return (pair x y))))", "(f (* b b))", 2 + 9*6}, {"(split (pair 1 (pair 0 1)) x y (split y z y (return (pair x y))))", "(f (* b b))", 4 + 9*8}, {"(to (return (pair 0 1)) x (split x x y (return (pair y x))))", "(f (* b b))", 66}, {"(to (return (pair 0 1)) x (split x y x (return (pair x y))))", "(f (* b b))", 66},
		{"(split (pair 0 1) x y (get y (return (pair x y))))", "(f (* b b))", 1 + 9*6}, {"(split (pair (pair 0 1) 1) x y (split x y z (return (pair y z))))", "(f (* b b))", 2 + 9*6}, {"(split (pair (pair 1 0) 0) x y (split (pair y x) y x (split x x z (return x))))", "(f b)", 22}, {"(split (pair 0 1) x y (lam x b (return y)))", "(> b (f b))", 22 + 25*22}, {"(split (pair 0 1) x y (lam y b (return x)))", "(> b (f b))", 16 + 25*16},
		// What is suspended keeps what the names meant, and not the state.
		{"(get x (to (return (thunk (return x))) t (put 1 (get x (force t)))))", "(f b)", 3 + 5*4}, {"(to (return (thunk (get x (return x)))) t (put 1 (force t)))", "(f b)", 24}, {"(to (return (thunk (put 1 (return 0)))) t (get x (return x)))", "(f b)", 21}, {"(get x (return (thunk (return x))))", "(f (u (f b)))", 1 + 16 + 51*(1+25+22)}, {"(thunk (get x (put 0 (return x))))", "(u (f b))", 11},
		{"(to (return (thunk (fail (f b)))) t (try (force t) (return 1)))", "(f b)", 22}, {"(to (return (thunk (return 1))) t (to (return (thunk (put 0 (force t)))) t (force t)))", "(f b)", 12}, {"(to (return (thunk (get s (if s (put 0 (return s)) (put 1 (return s)))))) t (to (force t) x (to (force t) y (return (pair x y)))))", "(f (* b b))", 2 + 9*7},
		{"(to (return (thunk (to (return (thunk (get x (return x)))) s (put 1 (force s))))) t (put 0 (force t)))", "(f b)", 24}, {"(lam x b (to (return (thunk (put x (return x)))) t (to (force t) y (get z (return z)))))", "(> b (f b))", 6 + 25*24},
		// What is suspended goes by what else is suspended, which differs from one state or bit to the other.
		{"(get x (to (return (thunk (return x))) t (to (return (thunk (force t))) w (force w))))", "(f b)", 21}, {"(lam x b (to (return (thunk (put x (return x)))) t (to (return (thunk (to (force t) y (get z (return z))))) w (force w))))", "(> b (f b))", 6 + 25*24}, {"(get x (split (pair (thunk (return x)) 0) t y (split (pair y (thunk (put y (force t)))) y w (force w))))", "(f b)", 1 + 5*2},
		{"(get x (to (return (thunk (return x))) t (split (pair (pair (thunk (force t)) x) x) p x (split p w y (to (return (thunk (force w))) v (force v))))))", "(f b)", 21}, {"(get x (return (thunk (to (return (thunk (return x))) t (to (return (thunk (force t))) w (force w))))))", "(f (u (f b)))", 1 + 16 + 51*(1+25+22)},
		// names that are written as what they are not
		{"(lam b b (get f (if f (return b) (put b (return f)))))", "(> b (f b))", 1 + 5*3 + 25*(3+5*4)}, {"(get x0 (put 1 (get x00 (return (pair x0 x00)))))", "(f (* b b))", 6 + 9*8},
	})
}

func TestCountsAtTheirLimit(t *testing.T) {
	const just = "(pair 0 (pair 0 (pair 0 (thunk (lam x b (return x))))))"
	const type5000 = "(* b (* b (* b (u (> b (f b))))))"
	wantElements(t, []meantText{
		{just, type5000, 566}, {"(pair 1 (pair 1 (pair 1 (thunk (lam x b (put 1 (return 1)))))))", type5000, impl.CountMax - 1}, {"(pair 1 (pair 0 (pair 1 (thunk (lam x b (fail (f b)))))))", type5000, 2500 + 625},
		{"(pair 1 (pair 1 (pair 1 (thunk (both (put 1 (return 1)) (put 1 (return 1)))))))", valueTypeOf12, impl.CountMax - 1}, {"(return (pair 1 (pair 1 (pair 1 (pair 1 1)))))", "(f (* b (* b (* b (* b b)))))", 32 + 65*64}, {"(put 1 (return (pair 1 (pair 1 (pair 1 (pair 1 1))))))", "(f (* b (* b (* b (* b b)))))", 65*65 - 1},
		{"(both (put 1 (return 1)) (put 1 (return (pair 1 1))))", "(& (f b) (f (* b b)))", 25*81 - 1}, {"(put 1 (return (thunk (put 1 (return 1)))))", "(f (u (f b)))", 51*51 - 1},
	})
	for _, s := range []string{
		"(pair 0 (thunk (return (thunk (return 0)))))", "(pair (thunk (lam x b (return x))) (thunk (return 0)))", "(return " + just + ")", "(return (pair 1 (pair 1 (pair 1 (pair 1 (pair 1 1))))))", "(both (return 0) (both (return 0) (return 0)))", "(both (return (pair 0 0)) (return (pair 0 0)))", "(return (thunk (return (pair 0 0))))", "(return (pair 0 (thunk (return 0))))", "(thunk (return (thunk (return (thunk (return 0))))))",
		// what comes out is small again
		"(split (pair 0 (thunk (return (thunk (return 0))))) x y (return x))", "(to (return (pair 1 (pair 1 (pair 1 (pair 1 (pair 1 1)))))) x (split x y z (return y)))", "(fst (snd (both (return 0) (both (return 0) (return 0)))))",
	} {
		if !impl.TermTyped(s) {
			t.Errorf("TermTyped(%s) = false", s)
		}
		wantNoMeaning(t, s)
	}
	for _, s := range typedAlone() {
		if !impl.TermTyped(s) {
			t.Errorf("TermTyped(%s) = false", s)
		}
		wantNoMeaning(t, s)
	}
}

// wantMeaningRun wants what MeaningRun and Run tell.
func wantMeaningRun(t *testing.T, s string, state int, print string, behind int) {
	t.Helper()
	if p, b, ok := impl.MeaningRun(s, state); !ok || p != print || b != behind {
		t.Errorf("MeaningRun(%s, %d) = %s, %d, %v, want %s, %d", s, state, p, b, ok, print, behind)
	}
	if p, b, _, ok := impl.Run(s, state, impl.FuelMax); !ok || p != print || b != behind {
		t.Errorf("Run(%s, %d) = %s, %d, %v, want %s, %d", s, state, p, b, ok, print, behind)
	}
}

func TestRunsOfMeanings(t *testing.T) {
	for _, w := range []struct {
		s      string
		state  int
		print  string
		behind int
	}{
		{"(return 0)", 0, "(return 0)", 0}, {"(return 0)", 1, "(return 0)", 1}, {"(fail (f b))", 0, "fail", 0}, {"(fail (f b))", 1, "fail", 0}, {"(put 1 (fail (f (* b b))))", 1, "fail", 0}, {"(get x (put 0 (return x)))", 1, "(return 1)", 0}, {"(get x (if x (fail (f b)) (put 1 (return x))))", 0, "(return 0)", 1}, {"(get x (if x (fail (f b)) (put 1 (return x))))", 1, "fail", 0},
		{"(return (pair 0 1))", 0, "(return (pair 0 1))", 0}, {"(return (pair (pair 0 1) 1))", 1, "(return (pair (pair 0 1) 1))", 1}, {"(return (pair 0 (pair 1 1)))", 1, "(return (pair 0 (pair 1 1)))", 1}, {"(get x (put 1 (return (pair (pair 0 x) (pair x 1)))))", 0, "(return (pair (pair 0 0) (pair 0 1)))", 1}, {"(get x (return (pair (pair (pair x 0) 1) x)))", 1, "(return (pair (pair (pair 1 0) 1) 1))", 1}, {"(return (pair 1 (pair 0 (pair 1 (pair 0 1)))))", 0, "(return (pair 1 (pair 0 (pair 1 (pair 0 1)))))", 0},
		{"(split (pair (thunk (put 1 (return (pair 0 1)))) 0) t y (try (fail (f (* b b))) (force t)))", 0, "(return (pair 0 1))", 1}, {"(app (get x (lam y b (put y (return x)))) 0)", 1, "(return 1)", 0}, {"(snd (put 1 (both (return 0) (get x (return (pair x x))))))", 0, "(return (pair 1 1))", 1}, {"(split (pair (thunk (return 0)) (thunk (put 1 (return 1)))) x y (to (force x) a (to (force y) b (return (pair a b)))))", 0, "(return (pair 0 1))", 1},
	} {
		wantMeaningRun(t, w.s, w.state, w.print, w.behind)
		for _, state := range noBits() {
			wantNoMeaningRun(t, w.s, state)
		}
	}
	for _, s := range []string{
		// not of a plain type (f A)
		"(lam x b (return x))", "(both (return 0) (return 1))", "(return (thunk (return 0)))", "(return (thunk (lam x b (return x))))", "(fail (> b (f b)))", "(fail (& (f b) (f b)))", "(fail (f (u (f b))))", "(get x (lam y b (return x)))", "(put 0 (both (return 0) (return 1)))", "(to (return 0) x (return (thunk (return x))))", "(try (return (thunk (return 0))) (fail (f (u (f b)))))",
		// values
		"0", "1", "(pair 0 1)", "(thunk (return 0))", "(pair (pair 0 1) 0)",
		"x", "(return x)", "(get x (return y))", "", "(return (return 0))", "(f b)", "(return 0) ",
	} {
		wantNoMeaningRun(t, s, 0)
		wantNoMeaningRun(t, s, 1)
	}
	for _, s := range slices.Concat(notMeant(), noTerms()) {
		wantNoMeaningRun(t, s, 0)
		wantNoMeaningRun(t, s, 1)
	}
}

func TestTextsOfElements(t *testing.T) {
	for _, w := range []struct {
		typ  string
		k    int
		want string
	}{
		{"b", 0, "0"}, {"b", 1, "1"}, {"(* b b)", 0, "(pair 0 0)"}, {"(* b b)", 1, "(pair 0 1)"}, {"(* b b)", 2, "(pair 1 0)"}, {"(* b b)", 3, "(pair 1 1)"}, {"(* b (* b b))", 3, "(pair 0 (pair 1 1))"}, {"(* (* b b) b)", 3, "(pair (pair 0 1) 1)"}, {"(* (* b b) b)", 4, "(pair (pair 1 0) 0)"}, {"(* b (* b b))", 4, "(pair 1 (pair 0 0))"}, {"(* (* b b) (* b b))", 6, "(pair (pair 0 1) (pair 1 0))"},
		{"(* b (* b (* b (* b (* b b)))))", 63, "(pair 1 (pair 1 (pair 1 (pair 1 (pair 1 1)))))"}, {"(* (* (* b b) b) (* b (* b b)))", 0, "(pair (pair (pair 0 0) 0) (pair 0 (pair 0 0)))"}, {"(* (* (* b b) b) (* b (* b b)))", 33, "(pair (pair (pair 1 0) 0) (pair 0 (pair 0 1)))"},
	} {
		if text, ok := impl.ElementText(w.typ, w.k); !ok || text != w.want {
			t.Errorf("ElementText(%s, %d) = %s, %v, want %s", w.typ, w.k, text, ok, w.want)
		}
	}
	for _, s := range []string{"(f b)", "(f (* b b))", "(u (f b))", "(* b (u (f b)))", "(* (u (f b)) b)", "(> b (f b))", "(& (f b) (f b))", "", "x", "0", "(pair 0 1)", "(* b)", "(* b b b)", valueTypeOf12, valueTypeOf13, "b ", "\xff"} {
		for _, k := range []int{0, 1, -1, 2} {
			wantNoText(t, s, k)
		}
	}
}

func TestMeaningsThatAreNotTheSame(t *testing.T) {
	for _, w := range []struct {
		a, b string
		same bool
	}{
		{"0", "0", true}, {"0", "1", false}, {"(return 0)", "(return 1)", false}, {"(force (thunk (return 1)))", "(return 1)", true}, {"(lam x b (return x))", "(lam y b (if y (return 1) (return 0)))", true}, {"(lam x b (return x))", "(lam x b (return 0))", false}, {"(get x (put x (return 1)))", "(return 1)", true}, {"(get x (return 1))", "(put 1 (return 1))", false},
		// one type, and one number of another type
		{"0", "(pair 0 0)", false}, {"(thunk (return 0))", "(return 0)", false}, {"(fail (f b))", "(fail (f (* b b)))", false}, {"(fail (f b))", "0", false}, {"(pair 0 (pair 0 1))", "(pair (pair 0 0) 1)", false}, {"(fail (> b (f b)))", "(fail (& (f b) (f b)))", false}, {"(thunk (fail (> b (f b))))", "(thunk (fail (& (f b) (f b))))", false}, {"(fail (f b))", "(thunk (fail (f b)))", false},
		{"(both (fail (f b)) (return 0))", "(both (fail (f b)) (return (pair 0 0)))", false}, {"(both (return 0) (fail (f b)))", "(get x (both (return 0) (fail (f b))))", true}, {"(thunk (lam x b (fail (f b))))", "(thunk (fail (> b (f b))))", true}, {"(pair 0 (thunk (put 0 (put 1 (return 0)))))", "(pair 0 (thunk (put 1 (return 0))))", true},
	} {
		if impl.MeaningSame(w.a, w.b) != w.same || impl.MeaningSame(w.b, w.a) != w.same {
			t.Errorf("MeaningSame(%s, %s) = %v, and %v exchanged", w.a, w.b, impl.MeaningSame(w.a, w.b), impl.MeaningSame(w.b, w.a))
		}
	}
	for _, s := range slices.Concat(notMeant(), noTerms(), []string{"x", "(return x)"}) {
		for _, fine := range []string{"0", "(return 0)", "(thunk (return 0))"} {
			if impl.MeaningSame(s, fine) || impl.MeaningSame(fine, s) {
				t.Errorf("MeaningSame(%s, %s) = true", quoted(s), fine)
			}
		}
	}
}

// wantIn wants what a term means in an environment.
func wantIn(t *testing.T, e meantEnv, s string, want int) {
	t.Helper()
	if k, ok := impl.DenoteIn(e.names, e.types, e.elements, s); !ok || k != want {
		t.Errorf("DenoteIn(%s, %s) = %d, %v, want %d", e.text(), quoted(s), k, ok, want)
	}
}

func TestMeaningsInEnvironments(t *testing.T) {
	t.Parallel()
	d, open := newMeantDice(13, 0), 0
	for _, w := range meantTerms() {
		wantIn(t, w.env, w.text, w.element)
		if len(w.term.uses()) > 0 {
			open++
			wantNoMeaning(t, w.text)
		}
		canon, _ := impl.TermCanon(w.text)
		wantIn(t, w.env, canon, w.element)
		for _, name := range []string{"z", "x", "n0", "b"} {
			if more := d.valueType(); !slices.Contains(w.term.uses(), name) && len(w.env.names) < impl.EnvMax {
				wantIn(t, w.env.with(name, more, d.IntN(countOf(more))), w.text, w.element)
			}
		}
	}
	if open < 1000 {
		t.Errorf("just %d terms have free names", open)
	}
}

// TestTermsInEnvironmentsWithAnyTypes has terms of types with any counts, in environments with such types.
func TestTermsInEnvironmentsWithAnyTypes(t *testing.T) {
	t.Parallel()
	known, unknown := 0, 0
	for _, w := range typedTerms() {
		if len(w.text) > 300 {
			continue // the oracle computes all of a term, again and again
		}
		e := meantEnv{madeEnv: w.env, elements: make([]int, len(w.env.names))}
		if m, ok := e.meantIn(w.term); ok {
			known++
			wantIn(t, e, w.text, m.element)
		} else {
			unknown++
			wantNoneIn(t, e, w.text)
		}
	}
	if known < 500 || unknown < 300 {
		t.Errorf("%d terms have a meaning and %d have none", known, unknown)
	}
}

func TestEachElementOfAName(t *testing.T) {
	t.Parallel()
	for _, w := range countedTypes("*bu") {
		for k := 0; k < w.count; k += 1 + w.count/300 {
			for _, each := range []int{k, w.count - 1 - k} {
				e := meantEnv{}.with("x", w.text, each)
				wantIn(t, e, "x", each)
				if w.head == "u" {
					wantIn(t, e, "(force x)", each)
				}
			}
		}
		for _, k := range []int{-1, -w.count, w.count, w.count + 1, math.MinInt, math.MaxInt} {
			for _, s := range []string{"x", "0", "(return 0)"} {
				wantNoneIn(t, meantEnv{}.with("x", w.text, k), s)
			}
		}
	}
}

func TestElementsOfEnvironments(t *testing.T) {
	f, c := "(u (> b (f b)))", "(u (& (f b) (f (* b b))))"
	e := meantEnv{}.with("v", "b", 1).with("p", "(* b (u (f b)))", 25+11).with("t", "(u (f b))", 13).with("f", f, 541).with("c", c, 81*24+70)
	for s, want := range map[string]int{
		"v": 1, "p": 36, "t": 13, "f": 541, "c": 2014, "(pair v v)": 3, "(pair v p)": 50 + 36, "(return v)": 22, "(force t)": 13, "(force f)": 541, "(force c)": 2014, "(app (force f) 0)": 16, "(app (force f) v)": 21, "(fst (force c))": 24, "(snd (force c))": 70, "(split p x y (force y))": 11, "(split p x y (return x))": 22, "(thunk (force f))": 541, "(thunk (snd (force c)))": 70,
		"(put v (return 0))": 18, "(if v (force t) (fail (f b)))": 13, "(put v (app (force f) 0))": 18, "(to (force t) x (return (pair x v)))": 6 + 9*4, "(lam v b (return v))": 566, "(get v (return v))": 21, "(lam x b (app (force f) x))": 541, "(both (fst (force c)) (snd (force c)))": 2014, "(try (fail (f b)) (force t))": 13, "(return t)": 1 + 13 + 51*(1+25+13),
	} {
		wantIn(t, e, s, want)
	}
}

func TestListsThatAreNoEnvironmentsWithElements(t *testing.T) {
	for _, e := range noEnvs() {
		for _, n := range []int{0, 1, len(e.names), len(e.types)} {
			for _, s := range []string{"0", "(return 1)", "x"} {
				wantNoneIn(t, meantEnv{e, make([]int, n)}, s)
			}
		}
	}
	two := envOf("x", "b", "y", "(* b b)")
	for _, elements := range [][]int{nil, {}, {0}, {0, 0, 0}, {1}, {0, 4}, {2, 0}, {-1, 0}, {0, -1}, {math.MaxInt, 0}, {0, math.MinInt}, {3, 1}, {0, 0, -1}, make([]int, 1000)} {
		for _, s := range []string{"0", "x", "(return 1)", "(pair x y)"} {
			wantNoneIn(t, meantEnv{two, elements}, s)
		}
	}
	for _, elements := range [][]int{{0}, {0, 0}, {-1}} {
		wantNoneIn(t, meantEnv{madeEnv{}, elements}, "(return 0)")
	}
	wantIn(t, meantEnv{two, []int{1, 3}}, "(pair x y)", 7)
	for _, s := range slices.Concat(notMeant(), noTerms(), []string{"z", "(return z)", "(force x)", "(force y)", "(app (return x) x)", "(if y (return x) (return x))", "(split x a c (return a))", "(to (return x) z (force z))"}) {
		wantNoneIn(t, meantEnv{two, []int{1, 3}}, s)
	}
}

// TestTypesOfEnvironmentsWithUnknownCounts has names whose types have more elements than are counted: a term has a meaning if they do not stand in it.
func TestTypesOfEnvironmentsWithUnknownCounts(t *testing.T) {
	for _, w := range []struct {
		typ  string
		last int // the greatest element
	}{
		{"(u (> (* b b) (f b)))", 25*25*25*25 - 1}, {"(u (& (f b) (> b (f b))))", 25*625 - 1}, {"(* b (u (> (* b b) (f b))))", 2*390625 - 1}, {"(u (f (u (> b (f b)))))", 1251*1251 - 1}, {"(u (> b (f (* b b))))", 81*81 - 1}, {"(u (> (* b (* b b)) (f b)))", 390625*390625 - 1}, {"(u (f (u (f (u (f b))))))", 5203*5203 - 1}, {"(* (u (f (u (f b)))) b)", 2*2601 - 1},
		{"(u (> (* b (* b (* b b))) (f b)))", math.MaxInt}, {"(u (> (u (f b)) (f b)))", math.MaxInt}, {"(u (> (u (> b (f b))) (f b)))", math.MaxInt}, {"(* b (u (> (u (f b)) (f b))))", math.MaxInt}, {"(u (f (u (> (u (f b)) (f b)))))", math.MaxInt}, {"(u (> (u (> (u (f b)) (f b))) (f b)))", math.MaxInt}, {"(u (& (f b) (> (u (f b)) (f b))))", math.MaxInt},
	} {
		if countOf(w.typ) != -1 {
			t.Fatalf("%s has a known count", w.typ)
		}
		for _, k := range []int{0, 1, impl.CountMax, w.last - 1, w.last} {
			e := meantEnv{}.with("y", "b", 1).with("x", w.typ, k)
			wantIn(t, e, "y", 1)
			wantIn(t, e, "(get x (return x))", 21)
			for _, s := range []string{"x", "(return x)", "(thunk (return x))", "(to (return x) z (return y))", "(split (pair y x) a c (return a))", "(if y (return y) (to (return x) x (return 0)))"} {
				wantNoneIn(t, e, s)
			}
			wantIn(t, e.with("x", "b", 1), "(return x)", 22)
		}
		for _, k := range []int{-1, math.MinInt, w.last + 1} {
			wantNoneIn(t, meantEnv{}.with("y", "b", 1).with("x", w.typ, k), "y")
		}
	}
}

func TestEqualNamesWithElements(t *testing.T) {
	e := meantEnv{}.with("x", "b", 1).with("y", "b", 0).with("x", "b", 0)
	wantIn(t, e, "x", 0)
	wantIn(t, e.with("x", "(* b b)", 3), "x", 3)
	wantIn(t, e.with("x", "(u (f b))", 13), "(force x)", 13)
	wantIn(t, e.with("y", "b", 1), "(pair x y)", 1)
	wantIn(t, e, "(get x (return x))", 21)
	wantIn(t, e, "(lam x b (return y))", 16+25*16)
	// Each one has to be an element of its own type, even if it does not count.
	for _, wrong := range []meantEnv{meantEnv{}.with("x", "b", 2).with("x", "b", 0), meantEnv{}.with("x", "(* b b)", 0).with("x", "b", 2), meantEnv{}.with("x", "b", 3).with("x", "(* b b)", 3), meantEnv{}.with("x", "b", -1).with("x", "b", 0)} {
		wantNoneIn(t, wrong, "x")
		wantNoneIn(t, wrong, "0")
	}
	eight := meantEnv{}
	for i := range impl.EnvMax {
		eight = eight.with([]string{"x", "y"}[i%2], "(* b b)", i%4)
	}
	wantIn(t, eight, "(pair x y)", 4*2+3)
	wantNoneIn(t, eight.with("x", "b", 0), "(pair x y)")
}

func TestEnvironmentsWithElementsAreNotChanged(t *testing.T) {
	names, types, elements := []string{"x", "y", "x", "spare"}, []string{"b", "(u (f b))", "(* b b)", "spare"}, []int{1, 13, 2, 99}
	for _, s := range []string{"x", "(force y)", "(get x (to (force y) z (return (pair x z))))", "(lam x b (return x))", "(force x)", "z"} {
		impl.DenoteIn(names[:3], types[:3], elements[:3], s)
		impl.DenoteIn(names[:3], types[:3], elements[:2], s)
		impl.DenoteIn(names[:2], types[:3], elements, s)
	}
	if strings.Join(names, " ") != "x y x spare" || strings.Join(types, ";") != "b;(u (f b));(* b b);spare" || !slices.Equal(elements, []int{1, 13, 2, 99}) {
		t.Errorf("the arguments are %q, %q, %d", names, types, elements)
	}
}
