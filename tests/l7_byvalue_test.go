package tests

import (
	"slices"
	"strings"
	"testing"

	"loop.example/pushvalue/impl"
)

// The tables of this file are worked out by hand from the document's text.

func TestTypesOfSourceExpressions(t *testing.T) {
	for s, want := range map[string]string{
		"0": "b", "1": "b", "(get)": "b", "(put 0)": "b", "(put (put (get)))": "b", "(fail b)": "b", "(fail (> b (* b b)))": "(> b (* b b))",
		"(lam x b x)": "(> b b)", "(lam x b 0)": "(> b b)", "(lam x (* b b) (pair (snd x) x))": "(> (* b b) (* b (* b b)))", "(lam f (> b b) (app f (app f 0)))": "(> (> b b) b)", "(lam x b (lam y (* b b) (lam z b y)))": "(> b (> (* b b) (> b (* b b))))", "(lam x b (lam y (* b b) (lam z (> b b) y)))": "",
		"(app (lam x b (pair x x)) 1)": "(* b b)", "(app (lam x (* b (> b b)) (snd x)) (pair 0 (lam y b y)))": "(> b b)", "(app (lam f (> b b) (app f 0)) (lam x b x))": "b", "(app (fail (> b (* b b))) 0)": "(* b b)",
		"(if (get) (lam x b x) (lam y b 0))": "(> b b)", "(if 0 (pair 0 1) (fail (* b b)))": "(* b b)", "(pair (lam x b x) (pair 0 (get)))": "(* (> b b) (* b b))", "(fst (pair (pair 0 1) (lam x b x)))": "(* b b)", "(snd (pair (pair 0 1) (lam x b x)))": "(> b b)", "(fst (fail (* (> b b) b)))": "(> b b)",
		// the innermost name counts, and names of types are names
		"(lam x b (lam x (* b b) x))": "(> b (> (* b b) (* b b)))", "(lam x (* b b) (lam x b x))": "(> (* b b) (> b b))", "(lam x b (pair (app (lam x (* b b) (fst x)) (pair x x)) x))": "(> b (* b b))", "(lam b b b)": "(> b b)", "(lam f (> b b) (lam u b (app f u)))": "(> (> b b) (> b b))", "(lam v0 (* b b) (fst v0))": "(> (* b b) b)",
		// free names
		"x": "", "b": "", "(put x)": "", "(lam x b y)": "", "(app (lam x b x) x)": "", "(pair (lam x b x) x)": "", "(if x 0 1)": "", "(lam x b (pair x (app (lam y b x) y)))": "",
		// parts of wrong types, wherever they stand
		"(app 0 0)": "", "(app (pair 0 0) 0)": "", "(app (lam x b x) (pair 0 0))": "", "(app (lam x (* b b) x) 0)": "", "(app (lam x (> b b) 0) (lam x (* b b) 0))": "", "(app (fail b) 0)": "", "(app (lam f (> b b) f) 0)": "", "(lam x b (app x x))": "", "(lam f (> b b) (app f f))": "",
		"(if (pair 0 1) 0 1)": "", "(if (lam x b x) 0 1)": "", "(if 0 0 (pair 0 0))": "", "(if 0 (pair 0 0) 0)": "", "(if 0 (lam x b 0) (lam x (* b b) 0))": "", "(if 0 (lam x b x) (lam x b (pair x x)))": "", "(if 0 (lam x b 0) (pair 0 0))": "",
		"(fst 0)": "", "(snd 0)": "", "(fst (lam x b x))": "", "(snd (lam x b x))": "", "(fst (fail (> b b)))": "", "(put (pair 0 0))": "", "(put (lam x b x))": "", "(put (fail (* b b)))": "",
		"(pair (fst 0) 0)": "", "(pair 0 (fst 0))": "", "(fst (pair 0 (app 0 0)))": "", "(if 1 0 (put (pair 0 0)))": "", "(lam x b (fst x))": "", "(app (lam x b 0) (fst 0))": "", "(put (snd 0))": "", "(snd (fst 0))": "",
	} {
		if want == "" {
			wantNoSourceType(t, s)
			continue
		}
		if typ, ok := impl.SourceType(s); !ok || typ != want {
			t.Errorf("SourceType(%s) = %s, %v, want %s", s, typ, ok, want)
		}
	}
}

func TestFreeNamesOfSources(t *testing.T) {
	for s, want := range map[string]string{
		"x": "x", "a123": "a123", "0": "", "(get)": "", "(fail b)": "", "b": "b", "(put v0)": "v0", "(pair y (pair x y))": "y x", "(fst (snd x))": "x", "(if a (if b b c) (app d a))": "a b c d",
		// bound in the last part alone
		"(lam x b x)": "", "(lam x b (pair x y))": "y", "(app (lam x b x) x)": "x", "(pair x (lam x b x))": "x", "(pair (lam x b y) (pair x (lam y b (pair x y))))": "y x", "(lam x b (lam y b x))": "", "(lam x b (lam x b x))": "", "(pair (lam x b (lam y b x)) (pair y x))": "y x", "(if a (lam a b a) (pair c b))": "a c b", "(app (lam f b (app f a)) (app f c))": "a f c",
		// names that look like types
		"(lam b b b)": "", "(lam x b b)": "b", "(lam b (> b b) f)": "f", "(pair (fail (* b b)) b)": "b",
		// without a type
		"(app 0 x)": "x", "(fst (put (lam y b z)))": "z", "(if (lam x b x) y (pair 0 1))": "y",
	} {
		free, ok := impl.SourceFree(s)
		if !ok || strings.Join(free, " ") != want {
			t.Errorf("SourceFree(%s) = %q, %v, want %s", s, free, ok, want)
		}
	}
}

func TestEffectsOfSources(t *testing.T) {
	for s, want := range map[string]bool{
		"0": true, "x": true, "(lam x b x)": true, "(app 0 0)": true, "(if (fst x) (snd y) (pair z 0))": true, "(get)": false, "(put 0)": false, "(fail b)": false,
		"(lam x b (get))": false, "(lam x b (put x))": false, "(pair 0 (fail b))": false, "(pair (get) 0)": false, "(app (lam x b 0) (get))": false, "(app (fail (> b b)) 0)": false, "(if 1 0 (put 0))": false, "(if 1 (get) 0)": false, "(if (get) 0 0)": false, "(fst (pair 0 (get)))": false, "(snd (get))": false, "(lam g b g)": true,
	} {
		if got := impl.SourcePure(s); got != want {
			t.Errorf("SourcePure(%s) = %v", s, got)
		}
	}
}

func TestEvaluationsByValue(t *testing.T) {
	for _, w := range []struct {
		s    string
		bit  int
		want sourceEnd
	}{
		{"0", 0, sourceEnd{"0", 0, 1}}, {"1", 0, sourceEnd{"1", 0, 1}}, {"0", 1, sourceEnd{"0", 1, 1}}, {"(get)", 0, sourceEnd{"0", 0, 1}}, {"(get)", 1, sourceEnd{"1", 1, 1}}, {"(put 0)", 1, sourceEnd{"0", 0, 2}}, {"(put 1)", 0, sourceEnd{"1", 1, 2}}, {"(put (get))", 1, sourceEnd{"1", 1, 2}}, {"(put (put 0))", 1, sourceEnd{"0", 0, 3}}, {"(fail b)", 1, sourceEnd{"fail", 0, 1}},
		// prints
		{"(lam x b x)", 1, sourceEnd{"thunk", 1, 1}}, {"(pair 0 1)", 1, sourceEnd{"(pair 0 1)", 1, 3}}, {"(pair (lam x b x) (pair 0 (lam y b y)))", 0, sourceEnd{"(pair thunk (pair 0 thunk))", 0, 5}}, {"(fail (> b b))", 0, sourceEnd{"fail", 0, 1}}, {"(pair (pair 1 1) (pair 0 (fail b)))", 1, sourceEnd{"fail", 0, 7}},
		// effects of a function happen when it is applied
		{"(lam x b (fail b))", 1, sourceEnd{"thunk", 1, 1}}, {"(lam x b (put 0))", 1, sourceEnd{"thunk", 1, 1}}, {"(pair (lam x b (put 0)) (get))", 1, sourceEnd{"(pair thunk 1)", 1, 3}}, {"(app (lam f (> b b) (get)) (lam x b (put x)))", 0, sourceEnd{"0", 0, 4}}, {"(app (lam x b (fail b)) (put 1))", 0, sourceEnd{"fail", 0, 5}},
		{"(app (lam f (> b b) (pair (app f 0) (app f 1))) (lam x b (put (if (get) 0 1))))", 0, sourceEnd{"(pair 1 0)", 0, 18}}, {"(app (lam f (> b b) (pair (app f 0) (app f 1))) (lam x b (put (if (get) 0 1))))", 1, sourceEnd{"(pair 0 1)", 1, 18}},
		// those of an argument happen once, also if it is not used
		{"(app (lam x b (pair x x)) (put (if (get) 0 1)))", 0, sourceEnd{"(pair 1 1)", 1, 9}}, {"(app (lam x b 0) (put 1))", 0, sourceEnd{"0", 1, 5}}, {"(app (lam x b 0) (fail b))", 1, sourceEnd{"fail", 0, 3}}, {"(app (lam p (* b b) p) (pair 0 (get)))", 1, sourceEnd{"(pair 0 1)", 1, 6}},
		// the function comes ahead of its argument, and that ahead of the inside
		{"(app (lam x b (pair x (get))) (put 1))", 0, sourceEnd{"(pair 1 1)", 1, 7}}, {"(app (if (put 1) (lam x b x) (fail (> b b))) (get))", 0, sourceEnd{"1", 1, 7}}, {"(app (if (get) (lam x b 1) (lam x b 0)) (put 1))", 0, sourceEnd{"0", 1, 7}}, {"(app (if (put 1) (lam x b (pair x (get))) (fail (> b (* b b)))) (put (if (get) 0 1)))", 0, sourceEnd{"(pair 0 0)", 0, 12}},
		{"(app (app (lam x b (lam y b (pair x y))) (put 1)) (get))", 0, sourceEnd{"(pair 1 1)", 1, 10}}, {"(app (app (lam x b (lam y b (pair x y))) (get)) (put 1))", 0, sourceEnd{"(pair 0 1)", 1, 10}},
		// the first part of a pair comes ahead of the second one
		{"(pair (put 1) (get))", 0, sourceEnd{"(pair 1 1)", 1, 4}}, {"(pair (get) (put 1))", 0, sourceEnd{"(pair 0 1)", 1, 4}}, {"(pair (put 1) (put 0))", 1, sourceEnd{"(pair 1 0)", 0, 5}}, {"(fst (pair (put 1) (put 0)))", 1, sourceEnd{"1", 0, 6}}, {"(snd (pair (put 1) (put 0)))", 1, sourceEnd{"0", 0, 6}}, {"(fst (if (put 1) (pair (get) 0) (pair 0 0)))", 0, sourceEnd{"1", 1, 7}},
		// what if asks comes ahead of the part that it chooses, and the other one is not evaluated
		{"(if (put 1) (get) 0)", 0, sourceEnd{"1", 1, 4}}, {"(if (put 0) (put 1) (get))", 1, sourceEnd{"0", 0, 4}}, {"(if (get) 0 1)", 1, sourceEnd{"0", 1, 3}}, {"(if (get) 0 1)", 0, sourceEnd{"1", 0, 3}}, {"(if 0 (fail b) (get))", 1, sourceEnd{"1", 1, 3}}, {"(if 1 (get) (fail b))", 0, sourceEnd{"0", 0, 3}}, {"(if 0 (put 1) 0)", 0, sourceEnd{"0", 0, 3}}, {"(if 1 0 (put 1))", 0, sourceEnd{"0", 0, 3}},
		// a failure in each part
		{"(app (fail (> b b)) (put 1))", 0, sourceEnd{"fail", 0, 2}}, {"(app (lam x b x) (put (fail b)))", 1, sourceEnd{"fail", 0, 4}}, {"(if (fail b) 0 1)", 1, sourceEnd{"fail", 0, 2}}, {"(if 1 (fail b) 0)", 1, sourceEnd{"fail", 0, 3}}, {"(if 0 0 (fail b))", 1, sourceEnd{"fail", 0, 3}}, {"(pair (fail b) (put 1))", 0, sourceEnd{"fail", 0, 2}}, {"(pair (put 1) (fail b))", 0, sourceEnd{"fail", 0, 4}},
		{"(fst (fail (* b b)))", 1, sourceEnd{"fail", 0, 2}}, {"(snd (fail (* b b)))", 1, sourceEnd{"fail", 0, 2}}, {"(fst (pair 0 (fail b)))", 1, sourceEnd{"fail", 0, 4}}, {"(snd (pair (fail b) (put 1)))", 0, sourceEnd{"fail", 0, 3}}, {"(put (fail b))", 1, sourceEnd{"fail", 0, 2}}, {"(put (put (fail b)))", 1, sourceEnd{"fail", 0, 3}},
		// names that are shadowed, and functions that keep what their names stand for
		{"(app (lam x b (app (lam x b x) (if x 0 1))) 1)", 0, sourceEnd{"0", 0, 9}}, {"(app (lam x b (pair (app (lam x b x) 0) x)) 1)", 0, sourceEnd{"(pair 0 1)", 0, 9}}, {"(app (app (lam x b (lam x b x)) 0) 1)", 0, sourceEnd{"1", 0, 7}}, {"(app (app (lam x b (lam y b x)) 0) 1)", 0, sourceEnd{"0", 0, 7}},
		{"(app (lam x b (app (lam f (> b b) (app (lam x b (app f x)) 1)) (lam y b x))) 0)", 1, sourceEnd{"0", 1, 13}}, {"(app (lam x b (app (lam f (> b b) (app (lam x b (app f x)) 1)) (lam y b y))) 0)", 1, sourceEnd{"1", 1, 13}}, {"(app (lam b b b) (get))", 1, sourceEnd{"1", 1, 4}}, {"(app (lam v0 b (put v0)) 1)", 0, sourceEnd{"1", 1, 5}},
		// functions as parts of pairs and as results
		{"(app (fst (pair (lam x b (if x 0 1)) 0)) 0)", 0, sourceEnd{"1", 0, 9}}, {"(app (snd (pair (put 1) (lam x b (get)))) 0)", 0, sourceEnd{"1", 1, 8}}, {"(app (lam p (* (> b b) b) (app (fst p) (snd p))) (pair (lam x b (put x)) 1))", 0, sourceEnd{"1", 1, 12}}, {"(app (app (lam f (> b b) f) (lam x b (put x))) 1)", 0, sourceEnd{"1", 1, 8}},
	} {
		byValue.wantEnd(t, w.s, w.bit, w.want)
		of, ok := impl.ValueOf(w.s)
		print, behind, _, ran := impl.Run(of, w.bit, impl.FuelMax)
		if want := w.want.print; !ok || !ran || print != want && print != "(return "+want+")" || behind != w.want.bit {
			t.Errorf("Run(ValueOf(%s)) = %s, %d, %v", w.s, print, behind, ran)
		}
	}
}

func TestTranslationsByValue(t *testing.T) {
	for s, want := range map[string]string{
		"0": "(return 0)", "1": "(return 1)", "(lam x b x)": "(return (thunk (lam x b (return x))))", "(app (lam x b x) 1)": "(to (return (thunk (lam x b (return x)))) v0 (to (return 1) v1 (app (force v0) v1)))", "(if 1 0 1)": "(to (return 1) v0 (if v0 (return 0) (return 1)))",
		"(pair 0 1)": "(to (return 0) v0 (to (return 1) v1 (return (pair v0 v1))))", "(fst (fail (* b b)))": "(to (fail (f (* b b))) v0 (split v0 v1 v2 (return v1)))", "(snd (fail (* b b)))": "(to (fail (f (* b b))) v0 (split v0 v1 v2 (return v2)))",
		"(get)": "(get v0 (return v0))", "(put 1)": "(to (return 1) v0 (put v0 (return v0)))", "(fail b)": "(fail (f b))", "(fail (> b b))": "(fail (f (u (> b (f b)))))",
		// types in the text
		"(lam f (> b b) f)": "(return (thunk (lam f (u (> b (f b))) (return f))))", "(lam p (* (> b b) b) 0)": "(return (thunk (lam p (* (u (> b (f b))) b) (return 0))))", "(lam b b b)": "(return (thunk (lam b b (return b))))", "(fail (> (* b b) b))": "(fail (f (u (> (* b b) (f b)))))",
		// names of an expression come ahead of those within it, and parts in order
		"(put (get))": "(to (get v1 (return v1)) v0 (put v0 (return v0)))", "(pair (get) (get))": "(to (get v2 (return v2)) v0 (to (get v3 (return v3)) v1 (return (pair v0 v1))))", "(pair (put (get)) (put 0))": "(to (to (get v3 (return v3)) v2 (put v2 (return v2))) v0 (to (to (return 0) v4 (put v4 (return v4))) v1 (return (pair v0 v1))))",
		"(if (get) (put 0) (get))": "(to (get v1 (return v1)) v0 (if v0 (to (return 0) v2 (put v2 (return v2))) (get v3 (return v3))))", "(fst (pair 0 1))": "(to (to (return 0) v3 (to (return 1) v4 (return (pair v3 v4)))) v0 (split v0 v1 v2 (return v1)))", "(snd (pair (get) 1))": "(to (to (get v5 (return v5)) v3 (to (return 1) v4 (return (pair v3 v4)))) v0 (split v0 v1 v2 (return v2)))",
		"(app (if (get) (lam x b x) (lam y b (get))) (get))": "(to (to (get v3 (return v3)) v2 (if v2 (return (thunk (lam x b (return x)))) (return (thunk (lam y b (get v4 (return v4))))))) v0 (to (get v5 (return v5)) v1 (app (force v0) v1)))",
		"(put (fst (pair (get) (get))))":                     "(to (to (to (get v6 (return v6)) v4 (to (get v7 (return v7)) v5 (return (pair v4 v5)))) v1 (split v1 v2 v3 (return v2))) v0 (put v0 (return v0)))",
		// names of the expression are left out, also where they are bound elsewhere or not used
		"(lam v0 b (put v0))": "(return (thunk (lam v0 b (to (return v0) v1 (put v1 (return v1))))))", "(lam v1 b (if v1 (get) (get)))": "(return (thunk (lam v1 b (to (return v1) v0 (if v0 (get v2 (return v2)) (get v3 (return v3)))))))", "(pair (get) (lam v1 b v1))": "(to (get v3 (return v3)) v0 (to (return (thunk (lam v1 b (return v1)))) v2 (return (pair v0 v2))))",
		"(pair (get) (app (lam v0 b 0) 1))":            "(to (get v3 (return v3)) v1 (to (to (return (thunk (lam v0 b (return 0)))) v4 (to (return 1) v5 (app (force v4) v5))) v2 (return (pair v1 v2))))",
		"(lam v1 b (lam v0 b (fst (pair v0 (get)))))":  "(return (thunk (lam v1 b (return (thunk (lam v0 b (to (to (return v0) v5 (to (get v7 (return v7)) v6 (return (pair v5 v6)))) v2 (split v2 v3 v4 (return v3)))))))))",
		"(lam v2 b (lam v3 b (lam v0 b (pair v2 0))))": "(return (thunk (lam v2 b (return (thunk (lam v3 b (return (thunk (lam v0 b (to (return v2) v1 (to (return 0) v4 (return (pair v1 v4)))))))))))))",
		// those that look alike are not
		"(lam v00 b (put v00))": "(return (thunk (lam v00 b (to (return v00) v0 (put v0 (return v0))))))", "(lam v b (put v))": "(return (thunk (lam v b (to (return v) v0 (put v0 (return v0))))))", "(lam v01 b (lam w0 b (get)))": "(return (thunk (lam v01 b (return (thunk (lam w0 b (get v0 (return v0))))))))", "(lam v10 b (put v10))": "(return (thunk (lam v10 b (to (return v10) v0 (put v0 (return v0))))))",
		// names that are bound stay as they are
		"(lam x b (lam x (* b b) x))": "(return (thunk (lam x b (return (thunk (lam x (* b b) (return x)))))))", "(app (lam x b (app (lam x b x) x)) 0)": "(to (return (thunk (lam x b (to (return (thunk (lam x b (return x)))) v2 (to (return x) v3 (app (force v2) v3)))))) v0 (to (return 0) v1 (app (force v0) v1)))",
	} {
		of, ok := impl.ValueOf(s)
		if !ok || of != want {
			t.Errorf("ValueOf(%s) = %s, %v, want %s", s, of, ok, want)
		}
	}
}

func TestTranslationsOfTypes(t *testing.T) {
	for _, w := range []struct{ typ, value, simple string }{
		{"b", "b", "0"}, {"(* b b)", "(* b b)", "(pair 0 0)"}, {"(> b b)", "(u (> b (f b)))", "(lam x b 0)"}, {"(* b (> b b))", "(* b (u (> b (f b))))", "(pair 0 (lam x b 0))"}, {"(* (> b b) b)", "(* (u (> b (f b))) b)", "(pair (lam x b 0) 0)"},
		{"(> (> b b) b)", "(u (> (u (> b (f b))) (f b)))", "(lam x (> b b) 0)"}, {"(> b (> b b))", "(u (> b (f (u (> b (f b))))))", "(lam x b (lam x b 0))"}, {"(> (* b b) (* b (* b b)))", "(u (> (* b b) (f (* b (* b b)))))", "(lam x (* b b) (pair 0 (pair 0 0)))"}, {"(* (* b b) (* b b))", "(* (* b b) (* b b))", "(pair (pair 0 0) (pair 0 0))"},
		{"(> b (> b (> b b)))", "", "(lam x b (lam x b (lam x b 0)))"}, {"(> (> b b) (> b b))", "", "(lam x (> b b) (lam x b 0))"},
	} {
		value, ok := impl.ValueType(w.typ)
		if value != w.value || ok != (w.value != "") {
			t.Errorf("ValueType(%s) = %s, %v, want %s", w.typ, value, ok, w.value)
		}
		if simple, ok := impl.SourceDefault(w.typ); !ok || simple != w.simple {
			t.Errorf("SourceDefault(%s) = %s, %v, want %s", w.typ, simple, ok, w.simple)
		}
	}
}

func TestEachSourceHead(t *testing.T) {
	for _, form := range formsOfSources {
		s := inParentheses(simplestSource(form.head, form.signs)...)
		free, ok := impl.SourceFree(s)
		if want := min(strings.Count(form.signs, "e"), 1); !ok || len(free) != want {
			t.Errorf("SourceFree(%s) = %q, %v", s, free, ok)
		}
	}
}

// TestPartsOfEachSourceKind puts parts of all kinds in all places of an expression with parts.
func TestPartsOfEachSourceKind(t *testing.T) {
	kinds := map[string]string{
		"e": "0|1|(get)|(pair 0 z)|(lam y b (fail (> b b)))|(app 0 0)|(fst 1)|(if x y z)|(put (snd z))", "ex": "z|c|z9|z000|f|u", "exS": "b", "S": "(* b b)|(> b b)|(> (* b (> b b)) b)",
		"": "x1234|get|fst|()|(x)|2|B|00|*|>|&|(pair 0)|(get 0)|(f b)|(u (f b))|(> b (f b))|(& b b)|(return 0)|(thunk (return 0))|(> b)|(* b b b)|(b)|zz| ",
	}
	for _, form := range formsOfSources {
		words := simplestSource(form.head, form.signs)
		for i, sign := range form.signs {
			for kind, texts := range kinds {
				for _, text := range strings.Split(texts, "|") {
					changed := slices.Clone(words)
					changed[i+1] = text
					s := inParentheses(changed...)
					if _, ok := impl.SourceFree(s); ok != strings.ContainsRune(kind, sign) {
						t.Errorf("SourceFree(%s) succeeds: %v", s, ok)
					}
				}
			}
		}
	}
}

// wantRecognizedSource holds whether a text is a source expression against another way to read texts.
func wantRecognizedSource(t *testing.T, s string) bool {
	t.Helper()
	_, ok := impl.SourceFree(s)
	if want := recognizedSource(s); ok != want {
		t.Fatalf("SourceFree(%q) succeeds: %v", s, ok)
	}
	return ok
}

// TestSourcesWithAWrongByte changes texts of expressions in one place.
func TestSourcesWithAWrongByte(t *testing.T) {
	texts := []string{"x", "x12", "a123", "0", "(get)", "(lam x1 (* b (> b b)) (pair x (fail (> b b))))", "(app (lam b b b) (if (get) 0 (put x)))", "(fst (snd (pair (get) (fail b))))"}
	for _, form := range formsOfSources {
		texts = append(texts, inParentheses(simplestSource(form.head, form.signs)...))
	}
	signs := []string{"", " ", "(", ")", "*", ">", "&", "b", "u", "f", "x", "0", "1", "7", "B", "E", "T", "-", "\n", "\x00", "\xe9"}
	for _, s := range texts {
		for i := range len(s) + 1 {
			for _, sign := range signs {
				wantRecognizedSource(t, s[:i]+sign+s[i:])
				if i < len(s) {
					wantRecognizedSource(t, s[:i]+sign+s[i+1:])
				}
			}
		}
	}
}

// TestSourcesWithAWrongWord takes, doubles or changes one word or sign of an expression.
func TestSourcesWithAWrongWord(t *testing.T) {
	d := newTermDice(7)
	vocabulary := []string{"(", ")", "0", "x", "y", "b", "(get)", "(return 0)", "(* b b)", "(f b)", "(> b b)", "pair", "get", "put", "fail", "fst", "x1234", "2"}
	sources, all := 0, someSources()
	for i := range 4000 {
		m := all[len(all)-1-i]
		words := wordsOf(m.text())
		i, j := d.IntN(len(words)), d.IntN(len(words))
		switch d.IntN(4) {
		case 0:
			words = slices.Delete(words, i, i+1)
		case 1:
			words = slices.Insert(words, i, words[j])
		case 2:
			words[i], words[j] = words[j], words[i]
		case 3:
			words[i] = d.one(vocabulary...)
		}
		// The other way to read does not tell whether a larger one has grown beyond a limit.
		if m.atoms() < impl.SourceMax-3 && wantRecognizedSource(t, textOfWords(words)) {
			sources++
		}
	}
	if sources < 100 || sources > 3900 {
		t.Errorf("%d of 4000 changed texts are source expressions", sources)
	}
}

func TestNamesOfSources(t *testing.T) {
	for c := range 256 {
		one := string([]byte{byte(c)})
		letter, digit := 'a' <= c && c <= 'z', '0' <= c && c <= '9'
		for s, want := range map[string]bool{one: letter, one + "1": letter, one + "123": letter, one + "1234": false, "x" + one: digit, "x12" + one: digit, "x123" + one: false, "x" + one + "1": digit, "": false} {
			wantSourceName(t, s, want)
		}
	}
	for _, s := range []string{"get", "put", "if", "fst", "snd", "app", "lam", "pair", "fail", "to", "return", "xy", "x y", "(x)", "x\x00", "0", "1", "x١"} {
		wantSourceName(t, s, false)
	}
}

// wantSourceName wants that a text is a name, or none, wherever a name may stand.
func wantSourceName(t *testing.T, s string, want bool) {
	t.Helper()
	_, bound := impl.SourceFree("(lam " + s + " b 0)")
	free, ok := impl.SourceFree(s)
	if bound != want || (ok && slices.Equal(free, []string{s})) != want {
		t.Errorf("SourceFree(%q) = %q, %v, and bound by lam %v", s, free, ok, bound)
	}
}

func TestResultsOfSourcesShareNoMemory(t *testing.T) {
	const s = "(pair y (app x (lam z b (pair z y))))"
	for range 3 {
		free, ok := impl.SourceFree(s)
		if !ok || !slices.Equal(free, []string{"y", "x"}) {
			t.Errorf("SourceFree(%s) = %q, %v behind a change of other results", s, free, ok)
		}
		clear(free[:cap(free)])
	}
}
