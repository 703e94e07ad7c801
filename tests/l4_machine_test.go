package tests

import (
	"math"
	"slices"
	"strings"
	"testing"

	"loop.example/pushvalue/impl"
)

// stateOf reads a state that is written as its computation, its frames and its bit, with bars between them.
func stateOf(s string) impl.State {
	words := strings.Split(s, " | ")
	last := len(words) - 1
	return impl.State{Comp: words[0], Stack: words[1:last], Bit: int(words[last][0] - '0')}
}

// wantStep wants the state behind a step, or none for "".
func wantStep(t *testing.T, s, want string) {
	t.Helper()
	next, ok := impl.StateStep(stateOf(s))
	if want == "" {
		if ok || !isZero(next) {
			t.Errorf("StateStep(%s) = %s, %v", quoted(s), quoted(stateText(next)), ok)
		}
		return
	}
	if !ok || !sameState(next, stateOf(want)) {
		t.Errorf("StateStep(%s) = %s, %v, want %s", quoted(s), quoted(stateText(next)), ok, quoted(want))
	}
}

func TestEachStep(t *testing.T) {
	for _, w := range []struct{ s, want string }{
		// into a frame
		{"(to (return 0) x (return x)) | 0", "(return 0) | (to x (return x)) | 0"}, {"(to (to (return 0) x (return x)) y1 (force y1)) | fst | 1", "(to (return 0) x (return x)) | fst | (to y1 (force y1)) | 1"}, {"(to (get x (return x)) x (return 1)) | 1", "(get x (return x)) | (to x (return 1)) | 1"},
		{"(app (lam x b (return x)) 1) | 0", "(lam x b (return x)) | (app 1) | 0"}, {"(app (return 0) (pair 0 (thunk (return 1)))) | 1", "(return 0) | (app (pair 0 (thunk (return 1)))) | 1"},
		{"(fst (return 0)) | 0", "(return 0) | fst | 0"}, {"(snd (return 0)) | fst | 1", "(return 0) | fst | snd | 1"},
		{"(try (fail (f b)) (return 0)) | 0", "(fail (f b)) | (try (return 0) 0) | 0"}, {"(try (fail (f b)) (return 0)) | 1", "(fail (f b)) | (try (return 0) 1) | 1"}, {"(try (put 0 (return 0)) (get x (return x))) | (try (return 1) 0) | 1", "(put 0 (return 0)) | (try (return 1) 0) | (try (get x (return x)) 1) | 1"},
		// out of a frame
		{"(return 0) | (to x (return (pair x x))) | 1", "(return (pair 0 0)) | 1"}, {"(return (thunk (return 1))) | fst | (to x (force x)) | 0", "(force (thunk (return 1))) | fst | 0"}, {"(return 1) | (to x (return 0)) | 0", "(return 0) | 0"},
		{"(return 1) | (try (return 0) 0) | 1", "(return 1) | 1"}, {"(return 1) | (try (fail (f b)) 1) | (try (return 0) 1) | 0", "(return 1) | (try (fail (f b)) 1) | 0"}, {"(return (pair 0 1)) | (app 1) | (try (return 0) 0) | 1", "(return (pair 0 1)) | (app 1) | 1"},
		{"(lam x b (return x)) | (app 1) | 0", "(return 1) | 0"}, {"(lam x (u (f b)) (force x)) | snd | (app (thunk (return 0))) | 1", "(force (thunk (return 0))) | snd | 1"}, {"(lam x b (return 0)) | (app (thunk (return 0))) | 1", "(return 0) | 1"},
		{"(both (return 0) (return 1)) | fst | 1", "(return 0) | 1"}, {"(both (return 0) (return 1)) | snd | 1", "(return 1) | 1"}, {"(both (return 0) (force 1)) | fst | snd | 0", "(force 1) | fst | 0"},
		// without a frame
		{"(force (thunk (return 1))) | 0", "(return 1) | 0"}, {"(force (thunk (lam x b (return x)))) | (app 1) | fst | 1", "(lam x b (return x)) | (app 1) | fst | 1"},
		{"(if 1 (return 0) (return 1)) | 0", "(return 0) | 0"}, {"(if 0 (return 0) (return 1)) | 1", "(return 1) | 1"}, {"(if 0 (force 0) (both (return 0) (return 1))) | snd | 1", "(both (return 0) (return 1)) | snd | 1"},
		{"(split (pair 0 1) x y (return (pair y x))) | 0", "(return (pair 1 0)) | 0"}, {"(split (pair (thunk (return 0)) (pair 0 1)) x y (to (force x) z (return (pair y (pair z y))))) | fst | 1", "(to (force (thunk (return 0))) z (return (pair (pair 0 1) (pair z (pair 0 1))))) | fst | 1"},
		{"(split (pair 0 1) x y (return y)) | 0", "(return 1) | 0"}, {"(split (pair 0 1) x y (return x)) | 0", "(return 0) | 0"}, {"(split (pair 0 1) y x (return (thunk (return (pair x y))))) | 1", "(return (thunk (return (pair 1 0)))) | 1"},
		{"(get x (return x)) | 0", "(return 0) | 0"}, {"(get x (return x)) | 1", "(return 1) | 1"}, {"(get y (if y (put 0 (return y)) (put y (return y)))) | (app 0) | 1", "(if 1 (put 0 (return 1)) (put 1 (return 1))) | (app 0) | 1"},
		{"(put 0 (return 1)) | 1", "(return 1) | 0"}, {"(put 1 (return 0)) | 0", "(return 0) | 1"}, {"(put 1 (get x (return x))) | fst | 1", "(get x (return x)) | fst | 1"}, {"(put 0 (fail (f b))) | 0", "(fail (f b)) | 0"},
	} {
		wantStep(t, w.s, w.want)
	}
}

// TestNamesThatAreBoundAgain puts values into terms where their names, or names like those within the values, are bound once more.
func TestNamesThatAreBoundAgain(t *testing.T) {
	for _, w := range []struct{ s, want string }{
		{"(return 1) | (to x (get x (return x))) | 0", "(get x (return x)) | 0"}, {"(return 1) | (to x (put x (get x (return x)))) | 0", "(put 1 (get x (return x))) | 0"}, {"(return 1) | (to x (to (return x) x (return x))) | 0", "(to (return 1) x (return x)) | 0"},
		{"(return 1) | (to x (to (to (return x) x (return x)) y (return x))) | 0", "(to (to (return 1) x (return x)) y (return 1)) | 0"}, {"(return 1) | (to x (both (lam x b (return x)) (return x))) | 0", "(both (lam x b (return x)) (return 1)) | 0"},
		{"(return (pair 0 1)) | (to x (split x x y (return (pair x y)))) | 0", "(split (pair 0 1) x y (return (pair x y))) | 0"}, {"(return (pair 0 1)) | (to x (split x y x (return (pair x y)))) | 0", "(split (pair 0 1) y x (return (pair x y))) | 0"}, {"(return 1) | (to y (split (pair y y) x z (return (pair y x)))) | 0", "(split (pair 1 1) x z (return (pair 1 x))) | 0"},
		{"(lam x b (lam x b (return x))) | (app 1) | 0", "(lam x b (return x)) | 0"}, {"(lam x b (lam y b (return (pair x y)))) | (app 1) | 0", "(lam y b (return (pair 1 y))) | 0"}, {"(lam x b (app (lam x b (return x)) x)) | (app 1) | 0", "(app (lam x b (return x)) 1) | 0"},
		{"(lam x b (return (thunk (get y (lam x b (return (pair x y))))))) | (app 1) | 0", "(return (thunk (get y (lam x b (return (pair x y)))))) | 0"}, {"(lam y b (return (thunk (get x (lam z b (return (pair y (pair x z)))))))) | (app 1) | 0", "(return (thunk (get x (lam z b (return (pair 1 (pair x z))))))) | 0"},
		{"(split (pair 0 1) x y (get x (return (pair x y)))) | 0", "(get x (return (pair x 1))) | 0"}, {"(split (pair 0 1) x y (get y (return (pair x y)))) | 0", "(get y (return (pair 0 y))) | 0"}, {"(split (pair 0 1) x y (get z (return (pair x (pair y z))))) | 0", "(get z (return (pair 0 (pair 1 z)))) | 0"},
		{"(split (pair 0 1) x y (split (pair y x) y x (return (pair x y)))) | 0", "(split (pair 1 0) y x (return (pair x y))) | 0"}, {"(split (pair 0 1) x y (split (pair x y) y z (return (pair x (pair y z))))) | 0", "(split (pair 0 1) y z (return (pair 0 (pair y z)))) | 0"}, {"(split (pair 0 1) x y (to (return y) x (return (pair x y)))) | 0", "(to (return 1) x (return (pair x 1))) | 0"},
		{"(get x (get x (return x))) | 1", "(get x (return x)) | 1"}, {"(get x (lam y b (get x (return (pair x y))))) | 1", "(lam y b (get x (return (pair x y)))) | 1"}, {"(get x (if x (get x (return x)) (return x))) | 1", "(if 1 (get x (return x)) (return 1)) | 1"},
		// names that are bound within the value
		{"(return (thunk (get y (return y)))) | (to x (get y (to (force x) z (return (pair y z))))) | 0", "(get y (to (force (thunk (get y (return y)))) z (return (pair y z)))) | 0"}, {"(lam x (u (> b (f b))) (lam y b (app (force x) y))) | (app (thunk (lam y b (return y)))) | 0", "(lam y b (app (force (thunk (lam y b (return y)))) y)) | 0"},
		{"(split (pair (thunk (get x (return x))) (thunk (get y (return y)))) x y (return (pair y (pair x (thunk (get x (force y))))))) | 0", "(return (pair (thunk (get y (return y))) (pair (thunk (get x (return x))) (thunk (get x (force (thunk (get y (return y))))))))) | 0"},
		{"(split (pair (thunk (lam x b (lam y b (return (pair x y))))) 1) y x (app (app (force y) x) x)) | 1", "(app (app (force (thunk (lam x b (lam y b (return (pair x y)))))) 1) 1) | 1"},
		// into a frame, and out of it again
		{"(to (return 1) x (get x (return x))) | 0", "(return 1) | (to x (get x (return x))) | 0"}, {"(to (get x (return x)) x (get y (return (pair x y)))) | 0", "(get x (return x)) | (to x (get y (return (pair x y)))) | 0"},
	} {
		wantStep(t, w.s, w.want)
	}
}

func TestFailuresWithinTries(t *testing.T) {
	for _, w := range []struct{ s, want string }{
		{"(fail (f b)) | (try (return 0) 0) | 1", "(return 0) | 0"}, {"(fail (f b)) | (try (return 0) 1) | 0", "(return 0) | 1"}, {"(fail (> b (f b))) | (try (get x (return x)) 1) | 1", "(get x (return x)) | 1"},
		{"(fail (f b)) | (try (return 0) 0) | (try (return 1) 1) | 0", "(return 1) | (try (return 0) 0) | 1"}, {"(fail (f b)) | (try (return 0) 0) | (try (fail (f b)) 1) | 0", "(fail (f b)) | (try (return 0) 0) | 1"}, {"(fail (f b)) | (try (return 1) 1) | (try (return 0) 0) | (try (return (pair 0 1)) 1) | 0", "(return (pair 0 1)) | (try (return 1) 1) | (try (return 0) 0) | 1"},
		// frames of other kinds within, between and around them
		{"(fail (f b)) | (try (return 0) 1) | fst | 0", "(return 0) | 1"}, {"(fail (f b)) | (try (return 0) 1) | (to x (return x)) | (app 1) | snd | fst | 0", "(return 0) | 1"}, {"(fail (f b)) | (try (return 0) 0) | fst | (try (return 1) 1) | snd | 0", "(return 1) | (try (return 0) 0) | fst | 1"},
		{"(fail (f b)) | (try (return 0) 0) | (to x (try (return x) (return 0))) | (try (lam x b (return x)) 1) | (app 1) | (app 0) | 0", "(lam x b (return x)) | (try (return 0) 0) | (to x (try (return x) (return 0))) | 1"}, {"(fail (f b)) | fst | (try (return 0) 1) | 0", "(return 0) | fst | 1"}, {"(fail (f b)) | fst | (to x (return 1)) | (try (return 0) 0) | (app 1) | 1", "(return 0) | fst | (to x (return 1)) | 0"},
		{"(fail (& (f b) (f b))) | snd | (try (both (return 0) (return 1)) 1) | fst | fst | 1", "(both (return 0) (return 1)) | snd | 1"}, {"(fail (f b)) | (try (return 0) 0) | (to x (try (fail (f b)) (return 0))) | 1", "(return 0) | 0"},
		// a frame that has the word within it is none
		{"(fail (f b)) | (to x (try (return x) (return 0))) | 0", ""}, {"(fail (f b)) | (app (thunk (try (return 0) (return 1)))) | 0", ""}, {"(fail (f b)) | 0", ""}, {"(fail (f b)) | fst | (app 1) | snd | (to x (return x)) | 1", ""},
	} {
		wantStep(t, w.s, w.want)
	}
}

// TestRunsThatFail runs computations that fail within tries, and looks at the bit that each one keeps.
func TestRunsThatFail(t *testing.T) {
	const fail = "(fail (f b))"
	for _, w := range []struct {
		s, print         string
		bit, left, steps int
	}{
		{fail, "fail", 0, 0, 0}, {fail, "fail", 1, 0, 0}, {"(put 1 " + fail + ")", "fail", 0, 0, 1}, {"(fst (app (to " + fail + " x (return x)) 0))", "fail", 1, 0, 3}, {"(fail (& (f b) (> b (f b))))", "fail", 1, 0, 0},
		{"(try " + fail + " " + fail + ")", "fail", 1, 0, 2}, {"(try (put 0 " + fail + ") (put 1 " + fail + "))", "fail", 1, 0, 4}, {"(try (try " + fail + " " + fail + ") " + fail + ")", "fail", 1, 0, 4},
		{"(try (put 1 " + fail + ") (get x (return x)))", "(return 0)", 0, 0, 4}, {"(try (put 0 " + fail + ") (get x (return x)))", "(return 1)", 1, 1, 4}, {"(try (put 1 (put 0 " + fail + ")) (get x (return x)))", "(return 1)", 1, 1, 5},
		{"(put 1 (try (put 0 " + fail + ") (get x (return x))))", "(return 1)", 0, 1, 5}, {"(try (put 1 (return 0)) (return 1))", "(return 0)", 0, 1, 3}, {"(to (try (put 1 (return 0)) (return 1)) x (get y (return (pair x y))))", "(return (pair 0 1))", 0, 1, 6},
		// the state changes between the tries
		{"(try (put 1 (try (put 0 " + fail + ") (get x (return x)))) (return 0))", "(return 1)", 0, 1, 7}, {"(try (put 1 (try (put 0 " + fail + ") " + fail + ")) (get x (return (pair x x))))", "(return (pair 0 0))", 0, 0, 7}, {"(try (put 0 (try (put 1 " + fail + ") (get x (put 1 (fail (f b)))))) (get x (return x)))", "(return 1)", 1, 1, 9},
		{"(try (try (put 1 " + fail + ") (get x (to (return x) y (return (pair x y))))) (return 0))", "(return (pair 0 0))", 0, 0, 8}, {"(try (to (try (put 1 (return 0)) (return 1)) x " + fail + ") (get y (return y)))", "(return 0)", 0, 0, 8}, {"(to (try (put 1 " + fail + ") (return 0)) x (get y (return (pair x y))))", "(return (pair 0 1))", 1, 1, 6},
		// a failure behind the try, or in what it goes on with
		{"(to (try (return 0) (return 1)) x " + fail + ")", "fail", 1, 0, 4}, {"(try (to (try (return 0) (return 1)) x " + fail + ") (return (pair 0 1)))", "(return (pair 0 1))", 1, 1, 6}, {"(try (try " + fail + " (put 1 " + fail + ")) (get x (return x)))", "(return 0)", 0, 0, 6},
		{"(app (try (fail (> b (f b))) (lam x b (return x))) 1)", "(return 1)", 0, 0, 4}, {"(fst (try (snd (app " + fail + " 1)) (both (return 0) (return 1))))", "(return 0)", 0, 0, 6}, {"(try (return (thunk " + fail + ")) (return 0))", "(return thunk)", 0, 0, 2},
		{"(to (try (return (thunk " + fail + ")) (return 0)) x (force x))", "fail", 1, 0, 5}, {"(get x (try (if x " + fail + " (return 0)) (return 1)))", "(return 1)", 1, 1, 4}, {"(get x (try (if x " + fail + " (return 0)) (return 1)))", "(return 0)", 0, 0, 4},
	} {
		wantRun(t, w.s, w.bit, w.steps, w.print, w.left, w.steps)
		wantRun(t, w.s, w.bit, impl.FuelMax, w.print, w.left, w.steps)
		if w.steps > 0 {
			wantTooLittle(t, w.s, w.bit, w.steps-1)
		}
	}
}

// TestFramesThatDoNotFit holds each kind of frame against each kind of computation that takes one away, and values against the computations that ask for them.
func TestFramesThatDoNotFit(t *testing.T) {
	frames := map[string]string{"(to x (return x))": "return", "(app 0)": "lam", "fst": "both", "snd": "both", "(try (return 0) 0)": "return", "(try (lam x b (return x)) 1)": "return"}
	for _, comp := range []string{"(return 0)", "(return (thunk (lam x b (return x))))", "(lam x b (return x))", "(both (return 0) (return 1))", "(both (lam x b (return x)) (lam x b (return x)))"} {
		for frame, wants := range frames {
			for _, around := range [][]string{nil, {"fst"}, {"(to x (return x))"}, {"(app 1)", "snd"}, {"(try (return 0) 1)"}} {
				s := impl.State{Comp: comp, Stack: append(slices.Clone(around), frame), Bit: len(around) % 2}
				fits := impl.TermHead(comp) == wants
				next, ok := impl.StateStep(s)
				if ok != fits || impl.StateStuck(s) == fits || ok && !slices.Equal(next.Stack, around) {
					t.Errorf("%s: StateStep %s, %v, StateStuck %v", stateText(s), stateText(next), ok, impl.StateStuck(s))
				}
			}
		}
	}
	heads := map[string]string{"0": "bit", "1": "bit", "(pair 0 1)": "pair", "(pair (thunk (return 0)) 0)": "pair", "(thunk (return 0))": "thunk", "(thunk (lam x b (return x)))": "thunk"}
	for form, wants := range map[string]string{"(force V)": "thunk", "(if V (return 0) (return 1))": "bit", "(split V x y (return x))": "pair", "(put V (return 0))": "bit"} {
		for value, head := range heads {
			comp, fits := strings.Replace(form, "V", value, 1), head == wants
			for _, stack := range [][]string{nil, {"fst"}, {"(app 0)"}, {"(to x (return x))"}, {"(try (return 0) 0)"}} {
				s := impl.State{Comp: comp, Stack: stack, Bit: 1}
				if _, ok := impl.StateStep(s); ok != fits || impl.StateStuck(s) == fits || impl.RunStuck(comp, 1, 0) == fits {
					t.Errorf("%s: StateStep %v, StateStuck %v", stateText(s), ok, impl.StateStuck(s))
				}
			}
		}
	}
}

func TestRunsThatAreStuck(t *testing.T) {
	for _, w := range []struct {
		s     string
		steps int
	}{
		{"(force 0)", 0}, {"(force 1)", 0}, {"(force (pair 0 1))", 0}, {"(split 0 x y (return x))", 0}, {"(split (thunk (return 0)) x y (return x))", 0}, {"(if (pair 0 1) (return 0) (return 1))", 0}, {"(put (thunk (return 0)) (return 0))", 0},
		{"(app (return 0) 1)", 1}, {"(fst (return 0))", 1}, {"(snd (lam x b (return x)))", 1}, {"(to (lam x b (return x)) y (return y))", 1}, {"(to (both (return 0) (return 1)) y (return y))", 1}, {"(app (both (return 0) (return 1)) 0)", 1}, {"(try (lam x b (return x)) (return 0))", 1}, {"(try (both (return 0) (return 0)) (return 0))", 1},
		{"(to (return 0) x (force x))", 2}, {"(get x (force x))", 1}, {"(get x (split x y z (return x)))", 1}, {"(put 1 (get x (to (return (pair x x)) y (if y (return 0) (return 1)))))", 4}, {"(app (lam x b (app (return x) x)) 0)", 3}, {"(try (fail (f b)) (force 0))", 2}, {"(fst (both (force 1) (return 0)))", 2},
		{"(try (try (fail (f b)) (fst (return 0))) (return 1))", 4}, {"(fst (try (fail (f b)) (return 0)))", 3}, {"(force (thunk (force (thunk (force 0)))))", 2}, {"(app (app (lam x b (lam y b (return x))) 0) 1)", -1}, {"(app (app (lam x b (return x)) 0) 1)", 3},
	} {
		for _, fuel := range []int{0, 1, 2, 3, 4, 5, 100, impl.FuelMax} {
			for bit := range 2 {
				if want := w.steps >= 0 && fuel >= w.steps; impl.RunStuck(w.s, bit, fuel) != want {
					t.Errorf("RunStuck(%s, %d, %d) = %v", w.s, bit, fuel, !want)
				}
				if w.steps >= 0 {
					wantTooLittle(t, w.s, bit, fuel)
				}
			}
		}
		for _, fuel := range []int{-1, math.MinInt, impl.FuelMax + 1, math.MaxInt} {
			wantNoRun(t, w.s, 0, fuel)
		}
		for _, bit := range noBits() {
			wantNoRun(t, w.s, bit, 100)
		}
	}
}

func TestEndsAndTheirPrints(t *testing.T) {
	for _, w := range []struct{ s, print string }{
		{"(return 0) | 0", "(return 0)"}, {"(return 1) | 0", "(return 1)"}, {"(return (pair 0 1)) | 1", "(return (pair 0 1))"}, {"(return (pair (pair 0 1) (pair (pair 1 1) 0))) | 1", "(return (pair (pair 0 1) (pair (pair 1 1) 0)))"},
		{"(return (thunk (return 0))) | 0", "(return thunk)"}, {"(return (thunk (lam x b (get y (return (pair x y)))))) | 1", "(return thunk)"}, {"(return (thunk (fail (f b)))) | 0", "(return thunk)"}, {"(return (thunk (return (thunk (return 0))))) | 0", "(return thunk)"}, {"(return (thunk (force 0))) | 0", "(return thunk)"},
		{"(return (pair (thunk (return 0)) 1)) | 1", "(return (pair thunk 1))"}, {"(return (pair (pair 0 (thunk (return (pair 0 1)))) (thunk (fail (f b))))) | 1", "(return (pair (pair 0 thunk) thunk))"}, {"(return (pair 1 (pair (thunk (return 1)) (pair 0 0)))) | 0", "(return (pair 1 (pair thunk (pair 0 0))))"},
		{"(lam x b (return x)) | 0", "lam"}, {"(lam x b (force 0)) | 1", "lam"}, {"(both (return 0) (return 1)) | 1", "both"}, {"(both (force 0) (fail (f b))) | 0", "both"},
		{"(fail (f b)) | 0", "fail"}, {"(fail (> b (f b))) | 1", "fail"}, {"(fail (f b)) | fst | 1", "fail"}, {"(fail (f b)) | (to x (return x)) | (app 1) | snd | fst | 0", "fail"}, {"(fail (f b)) | (to x (try (return x) (return 0))) | 1", "fail"},
		// no ends
		{"(return 0) | (to x (return x)) | 0", ""}, {"(return 0) | fst | 0", ""}, {"(return 0) | (try (return 0) 0) | 0", ""}, {"(lam x b (return x)) | (app 1) | 0", ""}, {"(lam x b (return x)) | fst | 0", ""}, {"(lam x b (return x)) | (try (return 0) 0) | 1", ""},
		{"(both (return 0) (return 1)) | fst | 0", ""}, {"(both (return 0) (return 1)) | (app 1) | 0", ""}, {"(fail (f b)) | (try (return 0) 1) | 1", ""}, {"(fail (f b)) | (try (return 0) 1) | fst | 1", ""}, {"(fail (f b)) | fst | (try (return 0) 1) | (to x (return x)) | 1", ""},
		{"(force (thunk (return 0))) | 0", ""}, {"(force 0) | 0", ""}, {"(get x (return x)) | 1", ""}, {"(put 0 (return 0)) | 1", ""}, {"(to (return 0) x (return x)) | 0", ""}, {"(try (return 0) (return 1)) | 0", ""},
	} {
		s := stateOf(w.s)
		if print, ok := impl.StateEnd(s); print != w.print || ok != (w.print != "") {
			t.Errorf("StateEnd(%s) = %s, %v, want %s", w.s, print, ok, w.print)
		}
		if w.print == "" {
			continue
		}
		wantStep(t, w.s, "")
		if impl.StateStuck(s) {
			t.Errorf("StateStuck(%s) = true", w.s)
		}
		if left := map[bool]int{true: 0, false: s.Bit}[w.print == "fail"]; len(s.Stack) == 0 {
			wantRun(t, s.Comp, s.Bit, 0, w.print, left, 0)
		}
	}
}

func TestPlugs(t *testing.T) {
	for _, w := range []struct{ s, want string }{
		{"(return 0) | 0", "(put 0 (return 0))"}, {"(force 0) | 1", "(put 1 (force 0))"}, {"(return 1) | (to x (return (pair x x))) | 0", "(put 0 (to (return 1) x (return (pair x x))))"}, {"(lam x b (return x)) | (app (pair 0 1)) | 1", "(put 1 (app (lam x b (return x)) (pair 0 1)))"},
		{"(return 0) | fst | 0", "(put 0 (fst (return 0)))"}, {"(return 0) | snd | 0", "(put 0 (snd (return 0)))"}, {"(fail (f b)) | (try (return 1) 0) | 1", "(put 1 (try (fail (f b)) (put 0 (return 1))))"}, {"(fail (f b)) | (try (get x (return x)) 1) | 0", "(put 0 (try (fail (f b)) (put 1 (get x (return x)))))"},
		{"(return 0) | fst | snd | 0", "(put 0 (fst (snd (return 0))))"}, {"(return 0) | (try (return 1) 1) | (to y (return y)) | (app 1) | 0", "(put 0 (try (to (app (return 0) 1) y (return y)) (put 1 (return 1))))"}, {"(get x (return x)) | (to x (get x (return x))) | (to x (return x)) | 1", "(put 1 (to (to (get x (return x)) x (return x)) x (get x (return x))))"},
		{"(return 0) | (to a123 (return a123)) | 0", "(put 0 (to (return 0) a123 (return a123)))"}, {"(return 0) | (try (try (return 0) (return 1)) 1) | (try (put 0 (return 0)) 0) | 0", "(put 0 (try (try (return 0) (put 0 (put 0 (return 0)))) (put 1 (try (return 0) (return 1)))))"},
	} {
		if plug, ok := impl.StatePlug(stateOf(w.s)); !ok || plug != w.want {
			t.Errorf("StatePlug(%s) = %s, %v, want %s", w.s, plug, ok, w.want)
		}
	}
}

func TestFrames(t *testing.T) {
	for _, f := range []string{
		"fst", "snd", "(to x (return x))", "(to x (return 0))", "(to z999 (return z999))", "(to x (get y (lam z b (return (pair x (pair y z))))))", "(to x (get x (return x)))", "(to x (fail (f b)))", "(to x (try (return x) (return 0)))", "(to x (to (return x) y (return y)))", "(to b (force b))", "(to f (app (force f) 0))",
		"(app 0)", "(app 1)", "(app (pair 0 1))", "(app (thunk (return 0)))", "(app (pair (thunk (lam x b (return x))) 0))", "(app (thunk (app (force 0) 1)))", "(try (return 0) 0)", "(try (return 1) 1)", "(try (get x (return x)) 0)", "(try (try (return 0) (return 1)) 1)", "(try (fail (> b (f b))) 0)", "(try (force 0) 1)",
	} {
		for _, stack := range [][]string{{f}, {f, f}, {"fst", f}, {f, "fst", f, "(app 1)"}} {
			for bit := range 2 {
				if s := (impl.State{Comp: "(force 0)", Stack: stack, Bit: bit}); !impl.StateValid(s) || !impl.StateStuck(s) {
					t.Errorf("%s: StateValid %v, StateStuck %v", stateText(s), impl.StateValid(s), impl.StateStuck(s))
				}
			}
		}
	}
	for _, f := range noFrames() {
		for _, stack := range [][]string{{f}, {f, "fst"}, {"(app 1)", f}} {
			if impl.StateValid(impl.State{Comp: "(force 0)", Stack: stack}) {
				t.Errorf("StateValid with the frame %s = true", quoted(f))
			}
		}
	}
}
