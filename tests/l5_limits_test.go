package tests

import (
	"slices"
	"strconv"
	"strings"
	"testing"

	"loop.example/pushvalue/impl"
)

// nest puts the same form around a computation so many times. A # in the form stands for the number of the place, from 0 on from outside, and ... for what is inside.
func nest(n int, form, inside string) string {
	for i := range n {
		inside = strings.Replace(strings.ReplaceAll(form, "#", strconv.Itoa(n-1-i)), "...", inside, 1)
	}
	return inside
}

// wantMeaningAsRun wants that a computation of (f b) has a meaning, which is what its runs come to.
func wantMeaningAsRun(t *testing.T, s string) {
	t.Helper()
	var want [2]answer
	for state := range want {
		print, behind, _, ok := impl.Run(s, state, impl.FuelMax)
		if !ok {
			t.Errorf("Run(%s, %d) fails", quoted(s), state)
			return
		}
		wantMeaningRun(t, s, state, print, behind)
		if print != "fail" {
			want[state] = answer{true, behind, int(print[len("(return ")] - '0')}
		}
	}
	wantElement(t, s, "(f b)", elementOf("(f b)", want))
}

// TestDeepTermsHaveMeanings has terms with as many names around each other as there can be, so that all of their meanings are too many to be looked at.
func TestDeepTermsHaveMeanings(t *testing.T) {
	t.Parallel()
	const flip = "(get s (if s (put 0 (return s)) (put 1 (return s))))"
	for _, s := range []string{
		nest(49, "(get x# ...)", nest(49, "(put x# ...)", "(get y (return y))")), nest(98, "(get x# ...)", "(return x0)"), nest(98, "(get x# ...)", "(return x97)"), nest(49, "(get x# (put 1 ...))", "(return x1)"), nest(98, "(put 1 ...)", "(get x (return x))"), nest(48, "(get x# (if x# ... (put 1 (return x#))))", "(return 0)"),
		nest(97, "(to (get x (return x)) x# ...)", "(return x5)"), nest(96, "(to "+flip+" x# ...)", "(put 0 (return x31))"), nest(96, "(to "+flip+" x# ...)", flip), nest(48, "(to "+flip+" x# ...)", nest(48, "(if x# (return 1) ...)", "(return 0)")), nest(96, "(to ... x (return x))", flip), nest(96, "(to ... x (put x (return x)))", flip), nest(96, "(to ... x "+flip+")", flip),
		nest(98, "(split (pair 0 1) x# y# ...)", "(return y0)"), "(get x (get y " + nest(97, "(split (pair y x) x y ...)", "(return x)") + "))",
		nest(32, "(app (lam x# b ...) 1)", nest(32, "(if x# ... (fail (f b)))", "(put 1 (return 1))")), "(get y " + nest(48, "(app (lam x# b ...) y)", "(put 0 (return x30))") + ")", nest(48, "(fst (both ... (return 0)))", flip), nest(48, "(snd (both (return 0) ...))", flip), nest(48, "(force (thunk ...))", flip), nest(32, "(force (thunk (get x# ...)))", nest(3, "(put x# ...)", "(return x31)")),
		nest(97, "(try ... (return 1))", "(fail (f b))"), nest(96, "(try (fail (f b)) ...)", flip), nest(96, "(try ... (get x (if x (return x) (fail (f b)))))", "(fail (f b))"), nest(48, "(try (put 1 ...) (get x (if x (fail (f b)) (return x))))", "(fail (f b))"), nest(96, "(if 1 ... (fail (f b)))", flip), nest(96, "(if 0 (fail (f b)) ...)", flip),
		nest(32, "(to (return (thunk ...)) x# (force x#))", flip), nest(24, "(to (return (thunk (get x# ...))) t (force t))", "(put x3 (return x20))"), nest(19, "(split (pair (thunk (lam x# b (get y# ...))) 0) f z (put 1 (app (force f) 1)))", nest(2, "(put y# ...)", "(return x18)")),
	} {
		if nesting(s) < 94 || nesting(s) > 100 {
			t.Errorf("%s has parentheses within each other %d times", quoted(s), nesting(s))
		}
		wantMeaningAsRun(t, s)
	}
}

func TestTermsAtTheirLimitsHaveMeanings(t *testing.T) {
	t.Parallel()
	returns := slices.Repeat([]string{"(return 0)"}, 499)
	for _, w := range []struct {
		s       string
		element int
	}{
		{allOf("try", append([]string{"(fail (f b))"}, returns...)), 16}, {allOf("try", append(returns[:499:499], "(fail (f b))")), 16}, {"(put 1 (fst (both " + allOf("try", append([]string{"(fail (f b))"}, returns[:496]...)) + " (return 1))))", 18}, {allOf("try", slices.Repeat([]string{"(fail (f b))"}, 375)), 0}, {"(try " + allOf("try", append(slices.Repeat([]string{"(fail (f b))"}, 373), "(get x (return x))")) + " (return 1))", 21},
		{allOf("try", slices.Repeat([]string{nest(44, "(force (thunk ...))", "(get a123 (fail (f b)))")}, 15)), 0}, {allOf("try", slices.Repeat([]string{nest(44, "(force (thunk ...))", "(get a123 (put 1 (return a123)))")}, 15)), 3 + 5*4},
	} {
		if size := impl.TermSize(w.s); size < 1400 || size > impl.TermMax {
			t.Errorf("%s has %d atoms and %d bytes", quoted(w.s), size, len(w.s))
		}
		wantElement(t, w.s, "(f b)", w.element)
	}
	for _, s := range []string{allOf("try", append([]string{"(fail (f b))", "(fail (f b))"}, returns...)), nest(101, "(get x# ...)", "(return x0)"), nest(100, "(put 1 ...)", "(return 0)"), nest(50, "(force (thunk ...))", "(return 0)")} {
		wantNoMeaning(t, s)
	}
	for _, s := range textsBeyondLimits() {
		wantNoMeaning(t, s)
	}
	for _, s := range textsAtLimits() {
		wantNoMeaning(t, s) // their types are too large, or they have free names
	}
	wantElement(t, nest(99, "(put 1 ...)", "(return 0)"), "(f b)", 18)
	wantElement(t, nest(49, "(force (thunk ...))", "(return 0)"), "(f b)", 16)
}

// TestMeaningsBeyondTheFuel has computations with a meaning that take far more steps than any fuel tells.
func TestMeaningsBeyondTheFuel(t *testing.T) {
	t.Parallel()
	const flip = "(get s (if s (put 0 (return s)) (put 1 (return s))))"
	const thrice = "(to (force t) x (to (force t) y (force t)))"
	for _, w := range []struct {
		s       string
		element int
	}{
		// within each other
		{nest(32, "(to (return (thunk ...)) t "+thrice+")", flip), 3 + 5*2}, {nest(32, "(to (return (thunk ...)) t (to (force t) x (force t)))", flip), 2 + 5*3}, {nest(32, "(to (return (thunk ...)) t (to (put 0 (force t)) x (put 1 (force t))))", "(get x (return x))"), 24}, {nest(24, "(to (return (thunk (get x ...))) t "+thrice+")", flip), 3 + 5*2},
		{nest(32, "(split (pair 0 (thunk ...)) x t "+thrice+")", flip), 3 + 5*2}, {nest(24, "(split (pair (thunk (lam x b ...)) 0) f z (to (app (force f) 0) x (to (app (force f) 1) y (app (force f) x))))", flip), 3 + 5*2}, {nest(24, "(split (pair (thunk (both (return 0) ...)) 1) c z (to (snd (force c)) x (to (snd (force c)) y (snd (force c)))))", flip), 3 + 5*2},
		{nest(24, "(to (return (thunk (try ... (return 0)))) t "+thrice+")", flip), 3 + 5*2}, {nest(32, "(to (return (thunk ...)) t (try (to (force t) x (fail (f b))) "+thrice+"))", flip), 3 + 5*2},
		// one behind the other
		{"(to (return (thunk " + flip + ")) t " + nest(90, "(to (return (thunk "+thrice+")) t ...)", "(force t)") + ")", 3 + 5*2}, {"(to (return (thunk " + flip + ")) t " + nest(90, "(to (return (thunk (to (force t) x (force t)))) t ...)", "(force t)") + ")", 2 + 5*3}, {"(to (return (thunk (get x (if x (fail (f b)) (return x))))) t " + nest(90, "(to (return (thunk (to (force t) x (force t)))) t ...)", "(force t)") + ")", 1},
		{"(split (pair (thunk (lam x b " + flip + ")) 0) f z " + nest(50, "(split (pair (thunk (lam x b (to (app (force f) x) y (to (app (force f) y) z (app (force f) x))))) 0) f z ...)", "(app (force f) 1)") + ")", 3 + 5*2},
	} {
		wantElement(t, w.s, "(f b)", w.element)
		for state := range 2 {
			wantTooLittle(t, w.s, state, impl.FuelMax)
			fine := answerOf("(f b)", w.element, state)
			print := "(return " + strconv.Itoa(fine.element) + ")"
			if !fine.fine {
				print = "fail"
			}
			if p, b, ok := impl.MeaningRun(w.s, state); !ok || p != print || b != fine.state {
				t.Errorf("MeaningRun(%s, %d) = %s, %d, %v, want %s, %d", quoted(w.s), state, p, b, ok, print, fine.state)
			}
		}
	}
}

// counting returns a computation that returns 1 if so many bits make another one return 1 an odd number of times. They are x0, x1 and so on there.
func counting(bits int, of string) string {
	return nest(bits, "(to (return (thunk (get x# ...))) t (to (put 0 (force t)) r (to (put 1 (force t)) q (if r (if q (return 0) (return 1)) (return q)))))", of)
}

// TestMeaningsForManyBits has computations that suspend what they go through, for each of some bits within each other, more often than results are kept.
func TestMeaningsForManyBits(t *testing.T) {
	t.Parallel()
	const odd, even = 24, 18 // 1 and 0, behind the state 1
	for _, bits := range []int{1, 2, 5, 14} {
		all := nest(bits, "(if x# ... (return 0))", "(return 1)")
		wantElement(t, counting(bits, all), "(f b)", odd)
		wantElement(t, counting(bits, nest(bits, "(if x# (return 0) ...)", "(return 1)")), "(f b)", odd)
		wantElement(t, counting(bits, nest(bits, "(if x# (return 1) ...)", "(return 0)")), "(f b)", odd)
		wantElement(t, counting(bits, "(to "+all+" r (if r (return 0) (return 1)))"), "(f b)", odd)
		wantElement(t, counting(bits, "(return 1)"), "(f b)", even)
		wantElement(t, counting(bits+1, "(return x"+strconv.Itoa(bits)+")"), "(f b)", even)
	}
}
