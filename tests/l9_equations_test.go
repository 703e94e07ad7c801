package tests

import (
	"strconv"
	"strings"
	"testing"

	"loop.example/pushvalue/impl"
)

// A simplification is a term, the rule with which it is simplified once, and what it comes to.
type simplification struct {
	s      string
	number int
	want   string
}

func wantSimplifications(t *testing.T, list []simplification) {
	t.Helper()
	for _, w := range list {
		wantOnce(t, w.s, w.number, w.want)
		if canon, ok := impl.TermCanon(w.want); !ok || canon != w.want {
			t.Errorf("%s does not have canonical names", w.want)
		}
		wantEqual(t, w.s, w.want, true)
	}
}

func TestTermsThatARuleFits(t *testing.T) {
	wantSimplifications(t, []simplification{
		{"(force (thunk (return 0)))", 1, "(return 0)"}, {"(force (thunk (force x)))", 1, "(force x)"}, {"(force (thunk (get x (return (pair x y)))))", 1, "(get n0 (return (pair n0 y)))"},
		{"(thunk (force x))", 2, "x"}, {"(thunk (force 0))", 2, "0"}, {"(thunk (force (pair x 1)))", 2, "(pair x 1)"}, {"(thunk (force (thunk (return 0))))", 2, "(thunk (return 0))"},
		{"(to (return 1) x (return (pair x x)))", 3, "(return (pair 1 1))"}, {"(to (return y) x (return x))", 3, "(return y)"}, {"(to (return 1) x (return 0))", 3, "(return 0)"}, {"(to (return (pair 0 x)) x (put x (return (pair x y))))", 3, "(put (pair 0 x) (return (pair (pair 0 x) y)))"}, {"(to (return (thunk (return x))) x (force x))", 3, "(force (thunk (return x)))"}, {"(to (return (thunk (get x (return x)))) y (return (pair y y)))", 3, "(return (pair (thunk (get n0 (return n0))) (thunk (get n1 (return n1)))))"},
		{"(to (force f) x (return x))", 4, "(force f)"}, {"(to (force x) x (return x))", 4, "(force x)"}, {"(to (get x (return (pair x y))) y (return y))", 4, "(get n0 (return (pair n0 y)))"}, {"(to (lam x b (return x)) y (return y))", 4, "(lam n0 b (return n0))"},
		{"(to (to (force f) x (force x)) y (force y))", 5, "(to (force f) n0 (to (force n0) n1 (force n1)))"}, {"(to (to (force f) x (return 0)) y (return 1))", 5, "(to (force f) n0 (to (return 0) n1 (return 1)))"}, {"(to (to (to (force f) x (return x)) y (force y)) z (force z))", 5, "(to (to (force f) n1 (return n1)) n0 (to (force n0) n2 (force n2)))"},
		{"(app (lam x b (return (pair x x))) 1)", 6, "(return (pair 1 1))"}, {"(app (lam x b (return y)) x)", 6, "(return y)"}, {"(app (lam x (u (f b)) (force x)) (thunk (return 0)))", 6, "(force (thunk (return 0)))"}, {"(app (lam x b (return (pair 0 x))) (pair x y))", 6, "(return (pair 0 (pair x y)))"},
		{"(lam x b (app (force f) x))", 7, "(force f)"}, {"(lam x (u (f b)) (app (force f) x))", 7, "(force f)"}, {"(lam x b (app (lam y b (return y)) x))", 7, "(lam n0 b (return n0))"}, {"(lam f b (app (force g) f))", 7, "(force g)"}, {"(lam x b (app (app (force f) y) x))", 7, "(app (force f) y)"},
		{"(if 1 (return x) (return y))", 8, "(return x)"}, {"(if 0 (return x) (return y))", 8, "(return y)"}, {"(if 1 (get x (return x)) (fail (f b)))", 8, "(get n0 (return n0))"},
		{"(if x (return y) (return y))", 9, "(return y)"}, {"(if (pair 0 1) (return x) (return x))", 9, "(return x)"}, {"(if x (get y (return y)) (get z (return z)))", 9, "(get n0 (return n0))"}, {"(if x (fail (f b)) (fail (f b)))", 9, "(fail (f b))"}, {"(if x (lam y (* b b) (return (pair y x))) (lam z (* b b) (return (pair z x))))", 9, "(lam n0 (* b b) (return (pair n0 x)))"},
		{"(split (pair 0 1) x y (return (pair y x)))", 10, "(return (pair 1 0))"}, {"(split (pair z (pair z 0)) x y (return (pair y (pair x y))))", 10, "(return (pair (pair z 0) (pair z (pair z 0))))"}, {"(split (pair 0 1) x y (return z))", 10, "(return z)"},
		{"(fst (both (return x) (return y)))", 11, "(return x)"}, {"(snd (both (return x) (return y)))", 11, "(return y)"}, {"(fst (both (both (return 0) (return 1)) (return 1)))", 11, "(both (return 0) (return 1))"},
		{"(both (fst (force f)) (snd (force f)))", 12, "(force f)"}, {"(both (fst (to (force f) x (force x))) (snd (to (force f) y (force y))))", 12, "(to (force f) n0 (force n0))"},
		{"(put x (put y (return 0)))", 13, "(put y (return 0))"}, {"(put 0 (put (pair 0 1) (return x)))", 13, "(put (pair 0 1) (return x))"}, {"(put x (put x (get y (return y))))", 13, "(put x (get n0 (return n0)))"},
		{"(put y (get x (return (pair x x))))", 14, "(put y (return (pair y y)))"}, {"(put 1 (get x (return 0)))", 14, "(put 1 (return 0))"}, {"(put x (get x (return x)))", 14, "(put x (return x))"}, {"(put (pair x y) (get y (return (pair x y))))", 14, "(put (pair x y) (return (pair x (pair x y))))"},
		{"(get x (get y (return (pair x y))))", 15, "(get n0 (return (pair n0 n0)))"}, {"(get x (get y (return z)))", 15, "(get n0 (return z))"}, {"(get x (get x (return x)))", 15, "(get n0 (return n0))"}, {"(get x (get y (get z (return (pair x (pair y z))))))", 15, "(get n0 (get n1 (return (pair n0 (pair n0 n1)))))"},
		{"(get x (put x (return x)))", 16, "(get n0 (return n0))"}, {"(get x (put x (return 0)))", 16, "(get n0 (return 0))"}, {"(get x (put x (put y (return x))))", 16, "(get n0 (put y (return n0)))"},
		{"(get x (return y))", 17, "(return y)"}, {"(get x (put y (return 0)))", 17, "(put y (return 0))"}, {"(get x (to (force f) y (return y)))", 17, "(to (force f) n0 (return n0))"}, {"(get x (fail (f b)))", 17, "(fail (f b))"},
		{"(put x (fail (f b)))", 18, "(fail (f b))"}, {"(put 0 (fail (> b (& (f b) (f b)))))", 18, "(fail (> b (& (f b) (f b))))"},
		{"(try (return x) (force f))", 19, "(return x)"}, {"(try (fail (f b)) (force f))", 19, "(force f)"}, {"(try (return 0) (fail (f b)))", 19, "(return 0)"}, {"(try (fail (f b)) (return 0))", 19, "(return 0)"}, {"(try (fail (f b)) (get x (return x)))", 19, "(get n0 (return n0))"}, {"(try (fail (> b (f b))) (force f))", 19, "(force f)"},
	})
}

// TestSimpleTerms has terms that a rule just doesn't fit.
func TestSimpleTerms(t *testing.T) {
	for _, s := range []string{
		"x", "0", "1", "n0", "(pair 0 1)", "(pair x (pair y 0))", "(return 0)", "(fail (f b))", "(thunk (return 0))",
		// 1 and 2
		"(force x)", "(force 0)", "(force (pair 0 1))", "(force (pair (thunk (return 0)) 0))", "(thunk (return x))", "(thunk (fst (force x)))", "(thunk (app (force x) 0))", "(return (pair x (thunk (fst (force x)))))",
		// 3 and 4
		"(to (force f) x (return 0))", "(to (force f) x (return y))", "(to (force f) x (return (pair x x)))", "(to (force f) x (return (thunk (return x))))", "(to (force f) x (force x))", "(to (force f) x (put x (return x)))", "(to (force f) x (to (force x) y (return x)))", "(to (get x (return x)) y (force y))", "(to (force f) x (to (force g) y (return x)))", "(to (fst (force f)) x (lam x b (return x)))",
		// 5
		"(to (force f) x (to (force g) y (force y)))", "(to (fst (to (force f) x (force x))) y (force y))", "(to (put x (to (force f) x (force x))) y (force y))",
		// 6 and 7
		"(app (force f) x)", "(app (fst (lam x b (return x))) 0)", "(app (get x (lam y b (return x))) 0)", "(app (app (force f) (thunk (lam x b (return x)))) 0)", "(app (both (lam x b (return x)) (return 0)) 0)",
		"(lam x b (return x))", "(lam x b (app (force f) y))", "(lam x b (app (force f) 0))", "(lam x b (app (force f) (pair x x)))", "(lam x b (app (force f) (thunk (return x))))", "(lam x b (app (force x) x))", "(lam x b (app (app (force f) x) x))", "(lam x b (app (get y (put 0 (app (force y) x))) x))", "(lam x b (lam y b (app (force f) x)))", "(lam x b (fst (app (force f) x)))", "(lam x b (app (force (pair f x)) x))",
		// 8 and 9
		"(if x (return 0) (return 1))", "(if (pair 0 1) (return 0) (return 1))", "(if (thunk (return 0)) (return 0) (return 1))", "(if x (return y) (return z))", "(if x (get y (return y)) (get y (put 0 (return y))))", "(if x (to (force f) y (force y)) (to (force f) y (force z)))", "(if x (lam y b (return 0)) (lam y (* b b) (return 0)))", "(if x (fail (f b)) (fail (f (* b b))))", "(if x (force y) (return y))", "(lam x b (lam y b (if z (return x) (return y))))", "(lam x b (if z (return x) (lam x b (return x))))", "(if x (both (return 0) (return 1)) (both (return 1) (return 0)))",
		// 10
		"(split z x y (return (pair x y)))", "(split 0 x y (return x))", "(split (thunk (return (pair 0 1))) x y (return x))", "(split x x y (return y))",
		// 11 and 12
		"(fst (force f))", "(fst (snd (force f)))", "(fst (fst (lam x b (both (return 0) (return 1)))))", "(snd (get x (both (return 0) (return x))))", "(snd (put x (both (return 0) (return 1))))",
		"(both (force f) (force f))", "(both (snd (force f)) (fst (force f)))", "(both (fst (force f)) (fst (force f)))", "(both (snd (force f)) (snd (force f)))", "(both (fst (force f)) (snd (force g)))", "(both (fst (force f)) (force f))", "(both (force f) (snd (force f)))", "(both (fst (to (force f) x (force x))) (snd (to (force f) y (force x))))", "(both (fst (app (force f) 0)) (snd (app (force f) 1)))",
		// 13, 14 and 18
		"(put x (return 0))", "(put x (force f))", "(put x (fst (put y (force f))))", "(put x (lam y b (put y (return 0))))", "(put x (if y (put 0 (return 0)) (return 0)))", "(put x (fst (get y (return y))))", "(put x (lam y b (get z (return z))))", "(put x (try (force f) (fail (f b))))", "(put x (fst (fail (& (f b) (f b)))))", "(put (thunk (get y (return y))) (return 0))",
		// 15, 16 and 17
		"(get x (return x))", "(get x (put y (return x)))", "(get x (put 0 (return x)))", "(get x (put (pair x x) (return 0)))", "(get x (put (thunk (return x)) (return 0)))", "(get x (fst (put x (return 0))))", "(get x (fst (get y (return (pair x y)))))", "(get x (if x (get y (return y)) (return 0)))", "(get x (to (force f) y (put x (return y))))", "(get x (lam y b (return (thunk (return x)))))", "(get x (to (force x) x (return (pair x x))))", "(get x (split x y z (return y)))",
		// 19
		"(try (force f) (return 0))", "(try (force f) (fail (f b)))", "(try (get x (return x)) (return 0))", "(try (put x (return 0)) (return 1))", "(try (to (force f) x (fail (f b))) (return 1))", "(try (lam x b (return x)) (return 0))", "(try (if x (return 0) (fail (f b))) (return 0))", "(try (force f) (force f))",
	} {
		wantNotOnce(t, s, 0)
		wantEqual(t, s, s, true)
		wantEqual(t, s, "(fst (return (pair 0 1)))", false)
	}
}

// TestRulesThatAskForANameThatIsNotFree has names that are free, bound and shadowed in the part of rules 7 and 17.
func TestRulesThatAskForANameThatIsNotFree(t *testing.T) {
	wantSimplifications(t, []simplification{
		// bound again within the part
		{"(lam x b (app (get x (put 0 (force x))) x))", 7, "(get n0 (put 0 (force n0)))"}, {"(lam x b (app (lam x b (return x)) x))", 7, "(lam n0 b (return n0))"}, {"(lam x b (app (to (force f) x (force x)) x))", 7, "(to (force f) n0 (force n0))"}, {"(lam x b (app (split y x z (force x)) x))", 7, "(split y n0 n1 (force n0))"}, {"(lam x b (app (split y z x (force x)) x))", 7, "(split y n0 n1 (force n1))"},
		{"(get x (lam x b (return x)))", 17, "(lam n0 b (return n0))"}, {"(get x (to (force f) x (put 0 (return x))))", 17, "(to (force f) n0 (put 0 (return n0)))"}, {"(get x (split y x z (return x)))", 17, "(split y n0 n1 (return n0))"}, {"(get x (split y z x (return x)))", 17, "(split y n0 n1 (return n1))"}, {"(get x (return (thunk (get x (return x)))))", 17, "(return (thunk (get n0 (return n0))))"},
		// free, so that just a part is simplified
		{"(lam x b (app (lam y b (return x)) x))", 6, "(lam n0 b (return n0))"}, {"(lam x b (app (to (return x) x (force x)) x))", 3, "(lam n0 b (app (force n0) n0))"}, {"(lam x b (app (force (thunk (force x))) x))", 1, "(lam n0 b (app (force n0) n0))"},
		{"(get x (to (return x) x (return x)))", 3, "(get n0 (return n0))"}, {"(get x (split (pair x 0) x y (return x)))", 10, "(get n0 (return n0))"}, {"(get x (return (thunk (force x))))", 2, "(get n0 (return n0))"}, {"(get x (try (return 0) (force x)))", 19, "(get n0 (return 0))"},
		// other names that are bound around the part
		{"(lam y b (lam x b (app (force y) x)))", 7, "(lam n0 b (force n0))"}, {"(lam y b (lam z b (lam x b (app (app (force y) z) x))))", 7, "(lam n0 b (lam n1 b (app (force n0) n1)))"}, {"(lam y b (get x (return y)))", 17, "(lam n0 b (return n0))"}, {"(lam y b (lam z b (get x (lam w b (return (pair (pair y z) w))))))", 17, "(lam n0 b (lam n1 b (lam n2 b (return (pair (pair n0 n1) n2)))))"}, {"(lam x b (get x (return y)))", 17, "(lam n0 b (return y))"}, {"(split z x y (lam x b (app (force y) x)))", 7, "(split z n0 n1 (force n1))"},
	})
}

// TestNamesThatWouldBeCaptured has a value or a part with a free name that the term binds.
func TestNamesThatWouldBeCaptured(t *testing.T) {
	wantSimplifications(t, []simplification{
		{"(to (return y) x (get y (return (pair x y))))", 3, "(get n0 (return (pair y n0)))"}, {"(to (return y) x (lam y b (lam x b (return (pair x y)))))", 3, "(lam n0 b (lam n1 b (return (pair n1 n0))))"}, {"(to (return x) x (get y (return (pair x y))))", 3, "(get n0 (return (pair x n0)))"}, {"(to (return (pair y z)) x (split x y z (return (pair x (pair y z)))))", 3, "(split (pair y z) n0 n1 (return (pair (pair y z) (pair n0 n1))))"}, {"(to (return (thunk (force y))) x (lam y b (app (force x) y)))", 3, "(lam n0 b (app (force (thunk (force y))) n0))"}, {"(to (return y) x (to (return x) y (return (pair x y))))", 3, "(to (return y) n0 (return (pair y n0)))"},
		{"(app (lam x b (lam y b (return (pair x y)))) y)", 6, "(lam n0 b (return (pair y n0)))"}, {"(app (lam x b (get y (get z (return (pair x (pair y z)))))) (pair z y))", 6, "(get n0 (get n1 (return (pair (pair z y) (pair n0 n1)))))"}, {"(app (lam x b (lam x b (return x))) x)", 6, "(lam n0 b (return n0))"}, {"(app (lam x b (split y x y (return (pair x y)))) y)", 6, "(split y n0 n1 (return (pair n0 n1)))"}, {"(app (lam x b (split x x y (return (pair x y)))) y)", 6, "(split y n0 n1 (return (pair n0 n1)))"},
		{"(split (pair y x) x y (return (pair x y)))", 10, "(return (pair y x))"}, {"(split (pair y 0) x y (return (pair x y)))", 10, "(return (pair y 0))"}, {"(split (pair 0 x) x y (return (pair x y)))", 10, "(return (pair 0 x))"}, {"(split (pair z y) x y (lam z b (return (pair x (pair y z)))))", 10, "(lam n0 b (return (pair z (pair y n0))))"}, {"(split (pair x z) x y (get z (return (pair y z))))", 10, "(get n0 (return (pair z n0)))"}, {"(split (pair (thunk (force y)) x) x y (lam x b (app (force y) x)))", 10, "(lam n0 b (app (force x) n0))"},
		{"(put y (get x (lam y b (return (pair x y)))))", 14, "(put y (lam n0 b (return (pair y n0))))"}, {"(put (pair y x) (get x (get y (return (pair x y)))))", 14, "(put (pair y x) (get n0 (return (pair (pair y x) n0))))"}, {"(put x (get x (to (force f) x (return (pair x x)))))", 14, "(put x (to (force f) n0 (return (pair n0 n0))))"},
		{"(get x (get y (lam x b (return (pair x y)))))", 15, "(get n0 (lam n1 b (return (pair n1 n0))))"}, {"(get x (get y (to (force x) x (return (pair x y)))))", 15, "(get n0 (to (force n0) n1 (return (pair n1 n0))))"}, {"(get x (get x (lam y b (return (pair x y)))))", 15, "(get n0 (lam n1 b (return (pair n0 n1))))"}, {"(lam z b (get x (get y (return (pair (pair x y) z)))))", 15, "(lam n0 b (get n1 (return (pair (pair n1 n1) n0))))"},
		// other names that are bound around the term
		{"(lam z b (to (return z) x (get y (return (pair x (pair y z))))))", 3, "(lam n0 b (get n1 (return (pair n0 (pair n1 n0)))))"}, {"(lam z b (lam w b (app (lam x b (lam y b (return (pair (pair x y) (pair z w))))) (pair w z))))", 6, "(lam n0 b (lam n1 b (lam n2 b (return (pair (pair (pair n1 n0) n2) (pair n0 n1))))))"}, {"(lam z b (split (pair z 0) x y (lam w b (return (pair (pair x y) (pair z w))))))", 10, "(lam n0 b (lam n1 b (return (pair (pair n0 0) (pair n0 n1)))))"}, {"(lam z b (split (pair 0 1) x y (return (pair z (pair x y)))))", 10, "(lam n0 b (return (pair n0 (pair 0 1))))"}, {"(lam z b (put z (get x (to (force f) y (return (pair x (pair y z)))))))", 14, "(lam n0 b (put n0 (to (force f) n1 (return (pair n0 (pair n1 n0))))))"}, {"(lam z b (get x (get y (lam w b (return (pair (pair x y) (pair z w)))))))", 15, "(lam n0 b (get n1 (lam n2 b (return (pair (pair n1 n1) (pair n0 n2))))))"}, {"(lam z b (get x (put x (return (pair x z)))))", 16, "(lam n0 b (get n1 (return (pair n1 n0))))"},
		// computations that come under a name
		{"(to (to (force f) x (return x)) y (return (pair x y)))", 5, "(to (force f) n0 (to (return n0) n1 (return (pair x n1))))"}, {"(to (to (force f) x (force x)) x (return (pair x x)))", 5, "(to (force f) n0 (to (force n0) n1 (return (pair n1 n1))))"}, {"(to (to (force y) x (return (pair x y))) y (force y))", 5, "(to (force y) n0 (to (return (pair n0 y)) n1 (force n1)))"}, {"(to (to (force x) x (force x)) y (put x (force y)))", 5, "(to (force x) n0 (to (force n0) n1 (put x (force n1))))"}, {"(to (to (force f) x (force x)) y (lam z b (return (pair x (pair y z)))))", 5, "(to (force f) n0 (to (force n0) n1 (lam n2 b (return (pair x (pair n1 n2))))))"}, {"(lam x b (to (to (force f) x (force x)) y (return (pair x y))))", 5, "(lam n0 b (to (force f) n1 (to (force n1) n2 (return (pair n0 n2)))))"}, {"(lam x b (lam y b (to (to (force y) x (force y)) z (return (pair x (pair y z))))))", 5, "(lam n0 b (lam n1 b (to (force n1) n2 (to (force n1) n3 (return (pair n0 (pair n1 n3)))))))"},
		// free names that look like canonical ones
		{"(to (return n0) x (get y (return (pair x y))))", 3, "(get n1 (return (pair n0 n1)))"}, {"(to (to (force f) n0 (force n0)) n1 (return (pair n0 n1)))", 5, "(to (force f) n1 (to (force n1) n2 (return (pair n0 n2))))"}, {"(app (lam n0 b (lam n1 b (return (pair n0 n1)))) n1)", 6, "(lam n0 b (return (pair n1 n0)))"}, {"(get n0 (get n1 (return (pair (pair n0 n1) n2))))", 15, "(get n0 (return (pair (pair n0 n0) n2)))"}, {"(put n1 (get n0 (lam n1 b (return (pair n0 n1)))))", 14, "(put n1 (lam n0 b (return (pair n1 n0))))"}, {"(try (get x (return x)) (force (thunk (get n0 (return (pair n0 n1))))))", 1, "(try (get n0 (return n0)) (get n2 (return (pair n2 n1))))"},
		// A name that is left out just as long as it is free.
		{"(if 1 (get x (return x)) (return n0))", 8, "(get n0 (return n0))"}, {"(fst (both (get x (return x)) (return n0)))", 11, "(get n0 (return n0))"}, {"(snd (both (get x (return (pair x n0))) (get x (return (pair x n1)))))", 11, "(get n0 (return (pair n0 n1)))"},
	})
}

func TestPartsThatAreAlike(t *testing.T) {
	wantSimplifications(t, []simplification{
		{"(if z (get x (put 0 (return x))) (get y (put 0 (return y))))", 9, "(get n0 (put 0 (return n0)))"}, {"(if z (split p x y (return x)) (split p y x (return y)))", 9, "(split p n0 n1 (return n0))"}, {"(lam z b (if z (lam x b (return (pair x z))) (lam y b (return (pair y z)))))", 9, "(lam n0 b (lam n1 b (return (pair n1 n0))))"}, {"(lam x b (if x (lam x b (return x)) (lam y b (return y))))", 9, "(lam n0 b (lam n1 b (return n1)))"},
		{"(both (fst (split p x y (force x))) (snd (split p y x (force y))))", 12, "(split p n0 n1 (force n0))"}, {"(lam z b (both (fst (app (force f) z)) (snd (app (force f) z))))", 12, "(lam n0 b (app (force f) n0))"},
		// not alike, so that just a part is simplified
		{"(if z (get x (return x)) (get x (return y)))", 17, "(if z (get n0 (return n0)) (return y))"}, {"(if z (return (thunk (force x))) (return x))", 2, "(if z (return x) (return x))"}, {"(both (fst (get x (force x))) (snd (get y (force x))))", 17, "(both (fst (get n0 (force n0))) (snd (force x)))"}, {"(both (fst (force (thunk (force f)))) (snd (force f)))", 1, "(both (fst (force f)) (snd (force f)))"}, {"(both (fst (both (return 0) (return 1))) (snd (both (return 0) (return 0))))", 11, "(both (return 0) (snd (both (return 0) (return 0))))"},
	})
}

func TestTheRuleWithTheLeastNumber(t *testing.T) {
	wantSimplifications(t, []simplification{
		// 3 ahead of 4, 4 ahead of 5, 8 ahead of 9, 15 ahead of 17
		{"(to (return 0) x (return x))", 3, "(return 0)"}, {"(to (to (force f) x (force x)) y (return y))", 4, "(to (force f) n0 (force n0))"}, {"(to (to (return 0) x (return x)) y (return y))", 4, "(to (return 0) n0 (return n0))"}, {"(if 1 (return x) (return x))", 8, "(return x)"}, {"(if 0 (get x (return x)) (get y (return y)))", 8, "(get n0 (return n0))"}, {"(get x (get y (return y)))", 15, "(get n0 (return n0))"}, {"(get x (get x (put x (return 0))))", 15, "(get n0 (put n0 (return 0)))"},
		// the whole ahead of its parts, also with a greater number
		{"(try (return (thunk (force x))) (return 0))", 19, "(return (thunk (force x)))"}, {"(put x (put (thunk (force y)) (if 1 (return 0) (return 1))))", 13, "(put (thunk (force y)) (if 1 (return 0) (return 1)))"}, {"(get x (force (thunk (return 0))))", 17, "(force (thunk (return 0)))"}, {"(both (fst (both (return 0) (return 1))) (snd (both (return 0) (return 1))))", 12, "(both (return 0) (return 1))"}, {"(lam x b (app (lam y b (return y)) x))", 7, "(lam n0 b (return n0))"}, {"(put (thunk (force x)) (fail (f b)))", 18, "(fail (f b))"}, {"(get x (put x (get y (return y))))", 16, "(get n0 (get n1 (return n1)))"}, {"(to (to (return 0) x (force x)) y (force y))", 5, "(to (return 0) n0 (to (force n0) n1 (force n1)))"}, {"(fst (both (force (thunk (return 0))) (return 1)))", 11, "(force (thunk (return 0)))"},
	})
}

// TestTheFirstPartThatCanBeSimplified has terms that no rule fits as a whole, with parts V1, V2 and so on that are values and M1, M2 and so on that are computations.
func TestTheFirstPartThatCanBeSimplified(t *testing.T) {
	for _, form := range []string{
		"(pair V1 V2)", "(return (pair V1 V2))", "(to M1 x M2)", "(app M1 V2)", "(if V1 M2 M3)", "(split V1 x y M2)", "(both M1 M2)", "(put V1 M2)", "(try M1 M2)", "(fst M1)", "(force (pair V1 V2))", "(lam x b (fst M1))", "(get x (to M1 y (put x M2)))", "(thunk (fst M1))",
		"(both (fst M1) (snd (lam x b M2)))", "(to (put V1 M2) x (app M3 (pair V4 V5)))", "(if (pair V1 (thunk (fst M2))) (try M3 (split V4 x y M5)) (return V6))", "(both (both M1 (return V2)) (both (return V3) M4))", "(try (try M1 M2) (try M3 M4))",
	} {
		parts := strings.Count(form, "V") + strings.Count(form, "M")
		for done := range parts + 1 {
			s := withParts(form, parts, done)
			if done == parts {
				wantNotOnce(t, s, 0)
				continue
			}
			number := 8
			if strings.Contains(form, "V"+strconv.Itoa(done+1)) {
				number = 2
			}
			want, _ := impl.TermCanon(withParts(form, parts, done+1))
			wantOnce(t, s, number, want)
		}
	}
}

// withParts returns a term of a form, with parts of which all but the so many first ones can be simplified.
func withParts(form string, parts, done int) string {
	for i := 1; i <= parts; i++ {
		number := strconv.Itoa(i)
		value, computation := "(thunk (force x"+number+"))", "(if 1 (force f"+number+") (return 0))"
		if i <= done {
			value, computation = "x"+number, "(force f"+number+")"
		}
		form = strings.NewReplacer("V"+number, value, "M"+number, computation).Replace(form)
	}
	return form
}

// The functions that take themselves as an argument, which have no type.
const (
	selfApplied = "(lam x (u (f b)) (app (force x) x))"
	growing     = "(lam x (u (f b)) (fst (app (force x) x)))"
)

// appliedToItself returns a term that comes back to itself when it is simplified twice, or to a part of what it comes to.
func appliedToItself(fun string) string { return "(app " + fun + " (thunk " + fun + "))" }

func TestSimplifyingAgainAndAgain(t *testing.T) {
	for _, w := range []struct {
		s     string
		n     int
		want  string
		times int
	}{
		{"(app (lam x b (to (return x) y (return y))) 0)", 9, "(return 0)", 2}, {"(app (lam x b (to (return x) y (return y))) 0)", 2, "(return 0)", 2}, {"(app (lam x b (to (return x) y (return y))) 0)", 1, "(to (return 0) n0 (return n0))", 1}, {"(app (lam x b (to (return x) y (return y))) 0)", 0, "(app (lam x b (to (return x) y (return y))) 0)", 0},
		// Without a step, the names stay.
		{"(get x (return x))", 0, "(get x (return x))", 0}, {"(get x (return x))", 200, "(get x (return x))", 0}, {"(get x (force (thunk (return x))))", 0, "(get x (force (thunk (return x))))", 0}, {"(get x (force (thunk (return x))))", 200, "(get n0 (return n0))", 1}, {"x", 5, "x", 0}, {"(pair n1 0)", 5, "(pair n1 0)", 0},
		{"(get x (get y (get z (put y (put x (return (pair x (pair y z))))))))", 200, "(get n0 (return (pair n0 (pair n0 n0))))", 4}, {"(put x (get y (put y (get z (return (pair y z))))))", 200, "(put x (return (pair x x)))", 3}, {"(to (to (to (return 0) x (return x)) y (return y)) z (return z))", 200, "(return 0)", 3}, {"(to (to (force f) x (return x)) y (force y))", 200, "(to (force f) n0 (force n0))", 2}, {"(both (if 1 (return 0) (return 1)) (if 0 (return 0) (return 1)))", 200, "(both (return 0) (return 1))", 2},
		{"(split (pair (thunk (lam x b (return x))) (pair 0 1)) f p (split p x y (app (force f) y)))", 200, "(return 1)", 4}, {"(try (put 0 (fail (f b))) (try (if x (return 0) (return 0)) (fail (f b))))", 200, "(return 0)", 4}, {"(try (put 0 (fail (f b))) (try (if x (return 0) (return 0)) (fail (f b))))", 3, "(try (return 0) (fail (f b)))", 3},
		// new rules fit behind each step
		{"(lam x b (app (lam y b (to (return y) z (app (force f) z))) x))", 200, "(force f)", 3}, {"(get x (to (return x) y (put y (return y))))", 200, "(get n0 (return n0))", 2}, {"(both (fst (force (thunk (force f)))) (snd (if x (force f) (force f))))", 200, "(force f)", 3}, {"(if (pair 0 1) (get x (return 1)) (put 0 (put 1 (fst (both (return 1) (return 0))))))", 200, "(if (pair 0 1) (return 1) (put 1 (return 1)))", 3},
	} {
		wantUpTo(t, w.s, w.n, w.want, w.times)
	}
}

// TestTermsThatComeBack has a term that is itself again when it is simplified twice.
func TestTermsThatComeBack(t *testing.T) {
	s := appliedToItself(selfApplied)
	middle := strings.Replace(s, "(app (lam", "(app (force (thunk (lam", 1)
	middle = strings.Replace(middle, " x)) (thunk", " x)))) (thunk", 1)
	var canon [2]string
	for i, text := range []string{s, middle} {
		canon[i], _ = impl.TermCanon(text)
	}
	wantOnce(t, s, 6, canon[1])
	wantOnce(t, middle, 1, canon[0])
	for n := 1; n <= mostTimes; n++ {
		wantUpTo(t, s, n, canon[n%2], n)
		wantUpTo(t, middle, n, canon[1-n%2], n)
	}
	// Both are simplified 200 times, so that they stay one time apart.
	wantEqual(t, s, s, true)
	wantEqual(t, s, canon[0], true)
	wantEqual(t, middle, canon[1], true)
	wantEqual(t, s, middle, false)
	wantEqual(t, s, "(force (thunk "+s+"))", false)
	wantEqual(t, middle, "(force (thunk "+s+"))", true)
	wantEqual(t, s, "(if 1 (force (thunk "+s+")) (return 0))", true)
	wantEqual(t, s, "(return 0)", false)
	for _, n := range noTimes() {
		wantNoSimplify(t, s, n)
	}
}

func TestTermsThatAreNotEqual(t *testing.T) {
	for _, w := range [][2]string{
		{"(return 0)", "(return 1)"}, {"x", "y"}, {"(force x)", "(force y)"}, {"0", "(return 0)"}, {"(get x (return x))", "(lam x b (return x))"}, {"(lam x b (return x))", "(lam x (* b b) (return x))"}, {"(fail (f b))", "(fail (f (* b b)))"}, {"(get x (return x))", "(get x (return y))"},
		// They mean the same, or do the same, but no rule tells so.
		{"(get x (if x (return 1) (return 0)))", "(get x (return x))"}, {"(put 0 (lam x b (return x)))", "(lam x b (put 0 (return x)))"}, {"(if x (return 1) (return 0))", "(return x)"}, {"(to (fail (f b)) x (return 0))", "(fail (f b))"}, {"(try (return 0) (fail (f b)))", "(try (fail (f b)) (return 1))"}, {"(try (force f) (force f))", "(force f)"}, {"(put 1 (try (return 0) (return 1)))", "(return 0)"}, {"(get x (if x (put 1 (return 0)) (put 0 (return 0))))", "(return 0)"},
	} {
		wantEqual(t, w[0], w[1], false)
	}
	for _, w := range [][2]string{
		{"(get x (return x))", "(get y (return y))"}, {"(to (return 0) x (return (pair x y)))", "(force (thunk (return (pair 0 y))))"}, {"(to (to (force f) x (force x)) y (force y))", "(to (force f) y (to (force y) x (force x)))"}, {"(put x (put y (get z (return z))))", "(put y (if x (return y) (return y)))"}, {"(thunk (force x))", "x"}, {"(thunk (lam x b (app (force f) x)))", "f"}, {"(get x (get y (put y (return x))))", "(get n0 (return n0))"},
	} {
		wantEqual(t, w[0], w[1], true)
	}
}
