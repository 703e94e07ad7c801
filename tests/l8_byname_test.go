package tests

import (
	"testing"

	"loop.example/pushvalue/impl"
)

// The tables of this file are worked out by hand from the document's text.

const (
	toggle    = "(put (if (get) 0 1))"                         // gives the other bit and makes it the state
	failsFor1 = "(if (get) (fail b) 0)"                        // fails for the state 1
	ifOne     = "(app (lam x b (if x x 0)) "                   // uses an argument, and once more if it was 1
	oneLater  = "(app (lam x b (if (put 1) x 0)) "             // uses an argument when the state is 1
	unused    = "(app (lam x b 0) "                            // does not use an argument
	pairTwice = "(app (lam x b (pair x x)) "                   // has an argument as both parts of a pair
	fstTwice  = "(app (lam p (* b b) (if (fst p) (fst p) 0)) " // uses the first part of a pair, and once more if it was 1
)

func TestEvaluationsByName(t *testing.T) {
	for _, w := range []struct {
		s    string
		bit  int
		want sourceEnd
	}{
		{"0", 0, sourceEnd{"(return 0)", 0, 1}}, {"1", 1, sourceEnd{"(return 1)", 1, 1}}, {"(get)", 0, sourceEnd{"(return 0)", 0, 1}}, {"(get)", 1, sourceEnd{"(return 1)", 1, 1}}, {"(put 0)", 1, sourceEnd{"(return 0)", 0, 2}}, {"(put 1)", 0, sourceEnd{"(return 1)", 1, 2}}, {"(put (put 0))", 1, sourceEnd{"(return 0)", 0, 3}}, {"(put (get))", 1, sourceEnd{"(return 1)", 1, 2}}, {toggle, 0, sourceEnd{"(return 1)", 1, 4}}, {toggle, 1, sourceEnd{"(return 0)", 0, 4}},
		// ends of all types, with failures behind them
		{"(lam x b x)", 1, sourceEnd{"lam", 1, 1}}, {"(lam x b (fail b))", 1, sourceEnd{"lam", 1, 1}}, {"(lam x b (put 0))", 1, sourceEnd{"lam", 1, 1}}, {"(pair 0 1)", 1, sourceEnd{"both", 1, 1}}, {"(pair (fail b) (put 0))", 1, sourceEnd{"both", 1, 1}}, {"(fst (pair (pair (fail b) 0) (fail b)))", 1, sourceEnd{"both", 1, 3}}, {"(snd (pair (fail b) (lam x b (fail b))))", 1, sourceEnd{"lam", 1, 3}},
		{"(fail b)", 1, sourceEnd{"fail", 0, 1}}, {"(fail (> b b))", 1, sourceEnd{"fail", 0, 1}}, {"(fail (* b b))", 1, sourceEnd{"fail", 0, 1}}, {"(if (get) (lam x b x) (fail (> b b)))", 1, sourceEnd{"lam", 1, 3}}, {"(if (get) (lam x b x) (fail (> b b)))", 0, sourceEnd{"fail", 0, 3}}, {"(if (put 1) (pair 0 0) (fail (* b b)))", 0, sourceEnd{"both", 1, 4}}, {"(app (lam x b (lam y b (fail b))) (fail b))", 1, sourceEnd{"lam", 1, 3}}, {pairTwice + "(fail b))", 1, sourceEnd{"both", 1, 3}},
		// arguments that are not used
		{unused + "(fail b))", 1, sourceEnd{"(return 0)", 1, 3}}, {unused + "(put 1))", 0, sourceEnd{"(return 0)", 0, 3}}, {"(app (lam x b (get)) (put 1))", 0, sourceEnd{"(return 0)", 0, 3}}, {"(app (lam f (> b b) 1) (fail (> b b)))", 0, sourceEnd{"(return 1)", 0, 3}}, {"(app (lam p (* b b) (put 1)) (pair (fail b) (put 0)))", 0, sourceEnd{"(return 1)", 1, 4}}, {unused + unused + "(fail b)))", 0, sourceEnd{"(return 0)", 0, 3}}, {"(app (lam x b (if 1 0 x)) (fail b))", 0, sourceEnd{"(return 0)", 0, 5}},
		// arguments that are used once, where their name is
		{"(app (lam x b x) (put 1))", 0, sourceEnd{"(return 1)", 1, 5}}, {"(app (lam x b (put x)) 1)", 0, sourceEnd{"(return 1)", 1, 5}}, {oneLater + "(get))", 0, sourceEnd{"(return 1)", 1, 7}}, {oneLater + "(fail b))", 0, sourceEnd{"fail", 0, 7}}, {oneLater + failsFor1 + ")", 0, sourceEnd{"fail", 0, 9}}, {"(app (lam x b (if (put 0) 0 x)) " + failsFor1 + ")", 1, sourceEnd{"(return 0)", 0, 9}}, {"(app (lam x b (if x (get) 0)) (put 1))", 0, sourceEnd{"(return 1)", 1, 7}},
		{"(app (lam x b x) (app (lam y b y) (get)))", 1, sourceEnd{"(return 1)", 1, 7}}, {"(app (lam x b (app (lam y b y) x)) (get))", 1, sourceEnd{"(return 1)", 1, 7}},
		// arguments that are used more than once do the same again, with their fuel
		{ifOne + "1)", 0, sourceEnd{"(return 1)", 0, 7}}, {ifOne + "(get))", 1, sourceEnd{"(return 1)", 1, 7}}, {ifOne + "(put 1))", 0, sourceEnd{"(return 1)", 1, 9}}, {ifOne + toggle + ")", 0, sourceEnd{"(return 0)", 0, 13}}, {ifOne + toggle + ")", 1, sourceEnd{"(return 0)", 0, 9}}, {ifOne + "(if " + failsFor1 + " 0 (put 1)))", 0, sourceEnd{"fail", 0, 15}}, {ifOne + ifOne + "(get)))", 1, sourceEnd{"(return 1)", 1, 19}},
		{"(app (lam x b (if (put 1) (if x (if (put 0) 0 (if x 0 (if (put 1) x 0))) 0) 0)) (get))", 0, sourceEnd{"(return 1)", 1, 19}}, {"(app (lam x b (if x 0 (if x 0 (if x 0 x)))) (get))", 0, sourceEnd{"(return 0)", 0, 13}}, {"(app (lam x b (if x (if x 1 (if x (if x 1 (get)) 1)) 1)) " + toggle + ")", 0, sourceEnd{"(return 0)", 0, 27}},
		{"(app (lam f (> b b) (if (app f 0) (app f 1) 0)) (if (put 1) (lam x b 1) (fail (> b b))))", 0, sourceEnd{"(return 1)", 1, 17}}, {"(app (lam f (> b b) (if (app f 1) (app f 1) 1)) (if " + toggle + " (lam x b x) (lam x b 0)))", 0, sourceEnd{"(return 0)", 0, 22}},
		// parts of pairs, of which just the one that is asked for is evaluated
		{"(fst (pair 0 (fail b)))", 1, sourceEnd{"(return 0)", 1, 3}}, {"(snd (pair (fail b) 1))", 0, sourceEnd{"(return 1)", 0, 3}}, {"(fst (pair (fail b) 0))", 1, sourceEnd{"fail", 0, 3}}, {"(snd (pair 0 (fail b)))", 1, sourceEnd{"fail", 0, 3}}, {"(snd (pair (put 1) (get)))", 0, sourceEnd{"(return 0)", 0, 3}}, {"(fst (pair (get) (put 1)))", 0, sourceEnd{"(return 0)", 0, 3}}, {"(fst (if (put 1) (pair (get) 0) (pair 0 0)))", 0, sourceEnd{"(return 1)", 1, 6}}, {"(snd " + pairTwice + "(put 1)))", 0, sourceEnd{"(return 1)", 1, 7}},
		{fstTwice + "(pair " + toggle + " (fail b)))", 0, sourceEnd{"(return 0)", 0, 17}}, {fstTwice + "(if (put 1) (pair (get) 0) (pair 0 0)))", 0, sourceEnd{"(return 1)", 1, 17}}, {fstTwice + "(if (get) (fail (* b b)) (pair (put 1) 0)))", 0, sourceEnd{"fail", 0, 15}},
		// what comes first, and its failure
		{"(app (if (put 1) (lam x b x) (fail (> b b))) (get))", 0, sourceEnd{"(return 1)", 1, 7}}, {"(app (fail (> b b)) (put 1))", 0, sourceEnd{"fail", 0, 2}}, {"(app (lam x b (fail b)) 0)", 1, sourceEnd{"fail", 0, 3}}, {"(app (lam x b x) (put (fail b)))", 1, sourceEnd{"fail", 0, 5}}, {"(if (put 1) (get) (fail b))", 0, sourceEnd{"(return 1)", 1, 4}}, {"(if (put 0) (fail b) (get))", 1, sourceEnd{"(return 0)", 0, 4}}, {"(if (fail b) 0 1)", 1, sourceEnd{"fail", 0, 2}}, {"(if 1 (fail b) 0)", 1, sourceEnd{"fail", 0, 3}}, {"(if 0 0 (fail b))", 1, sourceEnd{"fail", 0, 3}}, {"(fst (fail (* b b)))", 1, sourceEnd{"fail", 0, 2}}, {"(snd (fail (* b b)))", 1, sourceEnd{"fail", 0, 2}}, {"(put (fail b))", 1, sourceEnd{"fail", 0, 2}}, {"(put " + unused + "(fail b)))", 1, sourceEnd{"(return 0)", 0, 4}},
		// names that are shadowed
		{"(app (lam x b (app (lam x b x) (if x 0 1))) 1)", 0, sourceEnd{"(return 0)", 0, 9}}, {"(app (lam x b (if (app (lam x b x) 1) x 1)) 0)", 1, sourceEnd{"(return 0)", 1, 9}}, {"(app (app (lam x b (lam x b x)) (fail b)) 1)", 0, sourceEnd{"(return 1)", 0, 6}}, {"(app (app (lam x b (lam y b x)) 0) (fail b))", 1, sourceEnd{"(return 0)", 1, 6}}, {"(app (lam b b b) (get))", 1, sourceEnd{"(return 1)", 1, 4}}, {"(app (lam v0 b (put v0)) 1)", 0, sourceEnd{"(return 1)", 1, 5}},
		// arguments, functions and pairs keep what their names stand for where these are bound again
		{"(app (lam x b (app (lam y b (app (lam x b y) 0)) x)) 1)", 0, sourceEnd{"(return 1)", 0, 9}}, {"(app (lam x b (app (lam y b (app (lam x b (if x 0 y)) 0)) (put x))) 1)", 0, sourceEnd{"(return 1)", 1, 13}}, {"(app (lam x b (app (lam x b x) x)) 1)", 0, sourceEnd{"(return 1)", 0, 7}}, {"(app (lam x b (app (lam x b (app (lam x b x) (put x))) (if x 0 1))) 1)", 1, sourceEnd{"(return 0)", 0, 13}},
		{"(app (lam x b (app (lam f (> b b) (app (lam x b (app f x)) 1)) (lam y b x))) 0)", 1, sourceEnd{"(return 0)", 1, 11}}, {"(app (lam x b (app (lam f (> b b) (app (lam x b (app f x)) 1)) (lam y b y))) 0)", 1, sourceEnd{"(return 1)", 1, 12}}, {"(app (lam p (* b b) (app (lam x b (fst p)) 0)) (app (lam x b (pair x (fail b))) 1))", 1, sourceEnd{"(return 1)", 1, 11}}, {"(app (lam x b (app (lam p (* b b) (app (lam x b (snd p)) 0)) (pair 0 x))) 1)", 0, sourceEnd{"(return 1)", 0, 11}},
	} {
		byName.wantEnd(t, w.s, w.bit, w.want)
		of, ok := impl.NameOf(w.s)
		print, behind, _, ran := impl.Run(of, w.bit, impl.FuelMax)
		if !ok || !ran || print != w.want.print || behind != w.want.bit {
			t.Errorf("Run(NameOf(%s)) = %s, %d, %v", w.s, print, behind, ran)
		}
	}
}

func TestTranslationsByName(t *testing.T) {
	for s, want := range map[string]string{
		"0": "(return 0)", "1": "(return 1)", "(lam x b x)": "(lam x (u (f b)) (force x))", "(app (lam x b x) 1)": "(app (lam x (u (f b)) (force x)) (thunk (return 1)))", "(if 1 0 1)": "(to (return 1) v0 (if v0 (return 0) (return 1)))", "(pair 0 1)": "(both (return 0) (return 1))", "(fst (pair 0 1))": "(fst (both (return 0) (return 1)))", "(snd (pair 0 1))": "(snd (both (return 0) (return 1)))",
		"(get)": "(get v0 (return v0))", "(put 1)": "(to (return 1) v0 (put v0 (return v0)))", "(fail b)": "(fail (f b))", "(fail (> b b))": "(fail (> (u (f b)) (f b)))", "(fail (* b b))": "(fail (& (f b) (f b)))",
		// types in the text
		"(lam f (> b b) f)": "(lam f (u (> (u (f b)) (f b))) (force f))", "(lam p (* b b) (fst p))": "(lam p (u (& (f b) (f b))) (fst (force p)))", "(lam p (* (> b b) b) 0)": "(lam p (u (& (> (u (f b)) (f b)) (f b))) (return 0))", "(fail (> (* b b) b))": "(fail (> (u (& (f b) (f b))) (f b)))", "(lam b b b)": "(lam b (u (f b)) (force b))",
		// names of an expression come ahead of those within it, and parts in order; app, pair, fst and snd take none
		"(put (get))": "(to (get v1 (return v1)) v0 (put v0 (return v0)))", "(pair (get) (get))": "(both (get v0 (return v0)) (get v1 (return v1)))", "(pair (put (get)) (put 0))": "(both (to (get v1 (return v1)) v0 (put v0 (return v0))) (to (return 0) v2 (put v2 (return v2))))", "(if (get) (put 0) (get))": "(to (get v1 (return v1)) v0 (if v0 (to (return 0) v2 (put v2 (return v2))) (get v3 (return v3))))",
		"(put (fst (pair (get) (get))))": "(to (fst (both (get v1 (return v1)) (get v2 (return v2)))) v0 (put v0 (return v0)))", "(put (snd (fst (fail (* (* b b) b)))))": "(to (snd (fst (fail (& (& (f b) (f b)) (f b))))) v0 (put v0 (return v0)))", "(lam x b (if x (put x) (get)))": "(lam x (u (f b)) (to (force x) v0 (if v0 (to (force x) v1 (put v1 (return v1))) (get v2 (return v2)))))",
		"(app (if (get) (lam x b x) (lam y b (get))) (get))": "(app (to (get v1 (return v1)) v0 (if v0 (lam x (u (f b)) (force x)) (lam y (u (f b)) (get v2 (return v2))))) (thunk (get v3 (return v3))))",
		// names of the expression are left out, also where they are bound elsewhere or not used
		"(lam v0 b (put v0))": "(lam v0 (u (f b)) (to (force v0) v1 (put v1 (return v1))))", "(lam v1 b (if v1 (get) (get)))": "(lam v1 (u (f b)) (to (force v1) v0 (if v0 (get v2 (return v2)) (get v3 (return v3)))))", "(pair (get) (lam v0 b (get)))": "(both (get v1 (return v1)) (lam v0 (u (f b)) (get v2 (return v2))))", "(app (lam v0 b 0) (get))": "(app (lam v0 (u (f b)) (return 0)) (thunk (get v1 (return v1))))",
		"(lam v2 b (lam v1 b (if (get) (get) (put v2))))": "(lam v2 (u (f b)) (lam v1 (u (f b)) (to (get v3 (return v3)) v0 (if v0 (get v4 (return v4)) (to (force v2) v5 (put v5 (return v5)))))))",
		// those that look alike are not
		"(lam v00 b (put v00))": "(lam v00 (u (f b)) (to (force v00) v0 (put v0 (return v0))))", "(lam v b (put v))": "(lam v (u (f b)) (to (force v) v0 (put v0 (return v0))))", "(lam v01 b (lam w0 b (get)))": "(lam v01 (u (f b)) (lam w0 (u (f b)) (get v0 (return v0))))",
		// names that are bound stay as they are
		"(lam x b (lam x (* b b) x))": "(lam x (u (f b)) (lam x (u (& (f b) (f b))) (force x)))", "(app (lam x b (app (lam x b x) x)) 0)": "(app (lam x (u (f b)) (app (lam x (u (f b)) (force x)) (thunk (force x)))) (thunk (return 0)))",
	} {
		of, ok := impl.NameOf(s)
		if !ok || of != want {
			t.Errorf("NameOf(%s) = %s, %v, want %s", s, of, ok, want)
		}
	}
}

func TestTypesByName(t *testing.T) {
	for typ, want := range map[string]string{
		"b": "(f b)", "(* b b)": "(& (f b) (f b))", "(> b b)": "(> (u (f b)) (f b))", "(* b (> b b))": "(& (f b) (> (u (f b)) (f b)))", "(* (> b b) b)": "(& (> (u (f b)) (f b)) (f b))", "(> (* b b) b)": "(> (u (& (f b) (f b))) (f b))", "(> b (* b b))": "(> (u (f b)) (& (f b) (f b)))", "(> (> b b) b)": "(> (u (> (u (f b)) (f b))) (f b))", "(> b (> b b))": "(> (u (f b)) (> (u (f b)) (f b)))", "(* b (* b (* b b)))": "(& (f b) (& (f b) (& (f b) (f b))))", "(* (* b b) (* b b))": "(& (& (f b) (f b)) (& (f b) (f b)))",
		"(> (* b b) (* b b))": "(> (u (& (f b) (f b))) (& (f b) (f b)))", "(> b (> b (> b b)))": "", "(> (> b b) (> b b))": "", "(* (> b b) (> b b))": "", "(* b (* b (* b (* b b))))": "", "(> (* b b) (> b b))": "",
	} {
		if got, ok := impl.NameType(typ); got != want || ok != (want != "") {
			t.Errorf("NameType(%s) = %s, %v, want %s", typ, got, ok, want)
		}
	}
}

func TestAgreement(t *testing.T) {
	for s, want := range map[string][2]bool{
		"0": {true, true}, "1": {true, true}, "(get)": {true, true}, "(put 0)": {true, true}, toggle: {true, true}, "(if (get) 0 1)": {true, true}, "(app (lam x b x) (put 1))": {true, true}, "(app (lam x b (if x x 0)) (get))": {true, true}, "(fst (pair (put 1) 0))": {true, true},
		// a failure by both, in one place or in others
		"(fail b)": {true, true}, "(app (lam x b x) (fail b))": {true, true}, oneLater + "(fail b))": {true, true}, "(app (lam x b (fail b)) (put 1))": {true, true}, "(fst (pair (fail b) (put 1)))": {true, true}, "(app (lam x b (if (put 1) (fail b) 0)) (fail b))": {true, true}, "(snd (pair (put 1) (fail b)))": {true, true},
		// a failure by one of both
		unused + "(fail b))": {false, false}, "(snd (pair (fail b) 0))": {false, false}, "(fst (pair 0 (fail b)))": {false, false}, unused + failsFor1 + ")": {true, false}, oneLater + failsFor1 + ")": {false, true}, oneLater + "(if (get) 0 (fail b)))": {false, true},
		// other bits, also with the same state behind
		oneLater + "(get))": {false, true}, "(app (lam x b (if (put 0) 0 x)) (get))": {true, false}, ifOne + toggle + ")": {false, true},
		// another state, with the same bit
		unused + "(put 1))": {false, true}, unused + "(put 0))": {true, false}, unused + toggle + ")": {false, false}, "(fst (pair 1 (put 1)))": {false, true}, "(fst (pair (put 0) (put 1)))": {false, false}, "(fst (pair (put 1) (put 0)))": {false, false}, "(app (lam x b (if x 0 1)) (if " + toggle + " 0 0))": {true, true}, "(app (lam x b (if x 0 (if x 0 0))) (if " + toggle + " 0 0))": {false, false},
		// of other types, and no expressions
		"(pair 0 1)": {}, "(lam x b x)": {}, "(fail (* b b))": {}, "(fail (> b b))": {}, "x": {}, "(put x)": {}, "(fst 0)": {}, "(fail c)": {}, "": {}, " 0": {}, "(get )": {}, "(return 0)": {},
	} {
		for bit := range 2 {
			if got := impl.NameAgrees(s, bit); got != want[bit] {
				t.Errorf("NameAgrees(%s, %d) = %v", s, bit, got)
			}
		}
		for _, bit := range noBits() {
			if impl.NameAgrees(s, bit) {
				t.Errorf("NameAgrees(%s, %d) holds", s, bit)
			}
		}
	}
}

func TestMeaningsOfSources(t *testing.T) {
	for s, want := range map[string][2]int{
		"0": {16, 16}, "1": {22, 22}, "(get)": {21, 21}, "(put 0)": {6, 6}, "(put 1)": {24, 24}, "(fail b)": {0, 0}, toggle: {9, 9}, "(if (get) 0 1)": {17, 17}, "(if (get) (fail b) 1)": {2, 2}, "(if (get) 1 (fail b))": {20, 20}, "(fst (fail (* b b)))": {0, 0}, "(put (snd (pair 0 1)))": {24, 24},
		// parts of pairs that nothing asks for
		"(fst (pair 0 (put 1)))": {18, 16}, "(snd (pair (put 1) (get)))": {24, 21}, "(fst (pair 0 (fail b)))": {0, 16}, "(snd (pair (fail b) 1))": {0, 22}, "(put (fst (pair 1 (put 0))))": {24, 24}, "(if (fst (pair (get) (put 1))) (get) 0)": {23, 21}, "(fst (pair " + failsFor1 + " (put 0)))": {1, 1}, "(fst (pair (get) " + failsFor1 + "))": {1, 21}, "(fst (if (get) (pair 1 (put 0)) (pair (put 1) 0)))": {14, 24},
	} {
		if value, name, ok := impl.SourceMeans(s); !ok || value != want[0] || name != want[1] {
			t.Errorf("SourceMeans(%s) = %d, %d, %v, want %d", s, value, name, ok, want)
		}
	}
	for _, s := range []string{
		// without a known count by name, or by value either
		"(app (lam x b x) 0)", "(fst (pair 0 (lam x b x)))", "(app (fail (> b b)) 0)", "(if 1 0 (app (lam x b x) 0))", "(fst (pair 0 (pair 0 1)))", "(fst (snd (fail (* b (* b b)))))", "(fst (fst (pair (pair 0 1) 1)))", "(fst (pair 0 (fail (* b (* b (* b b))))))", "(fst (fail (* b (* b (* b (* b b))))))",
		// of other types, and no expressions
		"(pair 0 1)", "(lam x b x)", "(fail (* b b))", "(fail (> b b))", "x", "(put x)", "(fst 0)", "(fail c)", "", " 0", "(get )", "(return 0)",
	} {
		wantNoMeans(t, s)
	}
	// By value there is a known count of these.
	for _, s := range []string{"(fst (pair 0 (pair 0 1)))", "(fst (snd (fail (* b (* b b)))))", "(fst (fst (pair (pair 0 1) 1)))"} {
		value, _ := impl.ValueOf(s)
		name, _ := impl.NameOf(s)
		if !impl.TermKnown(value) || impl.TermKnown(name) || !impl.TermTyped(name) {
			t.Errorf("%s: TermKnown(%s) %v, TermKnown(%s) %v", s, value, impl.TermKnown(value), name, impl.TermKnown(name))
		}
	}
}
