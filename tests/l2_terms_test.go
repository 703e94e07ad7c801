package tests

import (
	"slices"
	"strings"
	"testing"

	"loop.example/pushvalue/impl"
)

// noTerms returns texts that are no terms.
func noTerms() []string {
	texts := []string{
		"", " ", "(", ")", "()", "( )", "(())", "*", ">", "&", "A", "X", "2", "00", "01", "10", "-1", "é", "\xff", "x\x00", "(return 0)\x00",
		// names that are too long or wrong
		"x1000", "n00000", "xx", "x1x", "1x", "0x", "x*", "x-1", "x_1", "x 1", "x ", " x", "x\n", "(return x1000)", "(return xx)", "(get x1000 (return 0))", "(get xx (return 0))",
		// words of the language as names
		"return", "to", "force", "lam", "app", "if", "split", "both", "fst", "snd", "get", "put", "fail", "try", "pair", "thunk", "name", "bit",
		"(return to)", "(return if)", "(return thunk)", "(get to (return 0))", "(lam fst b (return 0))", "(to (return 0) if (return 0))", "(split x if y (return 0))", "(split x y if (return 0))",
		"(get 0 (return 0))", "(get 1 (return 0))", "(lam 0 b (return 0))", "(get (pair x y) (return 0))", "(get (x) (return 0))", "(to (return 0) 1 (return 0))", "(split x 0 y (return 0))", "(split x (y) (z) (return 0))",
		// computations where values are asked, and the other way round
		"(return (return 0))", "(force (force x))", "(pair (return 0) 0)", "(pair 0 (return 0))", "(thunk 0)", "(thunk x)", "(thunk (pair 0 0))",
		"(to 0 x (return 0))", "(to (return 0) x 0)", "(lam x b 0)", "(app f x)", "(app (force f) (return x))", "(if (return 0) (return 0) (return 0))", "(if 0 0 (return 0))", "(if 0 (return 0) 0)",
		"(split (return 0) x y (return 0))", "(split 0 x y 0)", "(both 0 (return 0))", "(both (return 0) 0)", "(fst 0)", "(snd (pair 0 1))", "(get x x)", "(put (return 0) (return 0))", "(put 0 0)",
		"(try 0 (return 0))", "(try (return 0) 0)", "(return (to (return 0) x (return x)))", "(fst (thunk (both (return 0) (return 0))))",
		// types of the wrong kind, or none
		"(lam x (f b) (return x))", "(lam x x (return x))", "(lam x 0 (return x))", "(lam x (u b) (return x))", "(lam x (* b (f b)) (return x))", "(lam x (b) (return x))", "(lam x c (return x))",
		"(fail b)", "(fail (u (f b)))", "(fail (* b b))", "(fail (f (f b)))", "(fail 0)", "(fail x)", "(fail (return 0))", "(fail f b)", "b b", "(f b)", "(u (f b))", "(* b b)",
		// equal names of split
		"(split x y y (return 0))", "(split (pair 0 1) n0 n0 (return n0))", "(get z (split z b b (return z)))",
		// wrong signs
		"(x)", "(0)", "((return 0))", "((return) 0)", "((return 0) x)", "(name x)", "(bit 0)", "(value 0)", "(Return 0)", "(return 0", "return 0)", "return 0", "(return 0))", "((return 0)", "(return 0)(return 0)", "(return 0) (return 0)",
		"(return  0)", "( return 0)", "(return 0 )", " (return 0)", "(return 0) ", "(return\t0)", "(return\n0)", "(return 0)\n", "(return,0)", "(return(pair 0 1))", "(both (return 0)(return 0))", "[return 0]", "(return é)", "(return \xff)", "（return 0）",
	}
	return slices.Concat(texts, wrongCounts(), textsBeyondLimits(), longTexts())
}

// simplestForm returns the words of a simple term with a head.
func simplestForm(head, signs string) []string {
	parts := map[rune]string{'V': "z", 'M': "(return 0)", 'x': "x", 'A': "b", 'C': "(f b)"}
	words := []string{head}
	for _, sign := range signs {
		word := parts[sign]
		if slices.Contains(words, word) && sign == 'x' {
			word = "y"
		}
		words = append(words, word)
	}
	return words
}

func inParentheses(words ...string) string { return "(" + strings.Join(words, " ") + ")" }

// wrongCounts returns terms of each head with a part too few or too many.
func wrongCounts() []string {
	var texts []string
	for _, form := range formsOfTerms {
		words := simplestForm(form.head, form.signs)
		for i := range words {
			texts = append(texts, inParentheses(slices.Concat(words[:i], words[i+1:])...))
			texts = append(texts, inParentheses(slices.Concat(words[:i+1], words[i:])...))
		}
		texts = append(texts, inParentheses(form.head), inParentheses(append(words, "0")...), inParentheses(append(words, "(return 0)")...))
	}
	return slices.DeleteFunc(texts, func(s string) bool { return s == "(z)" })
}

func TestEachHead(t *testing.T) {
	for _, form := range formsOfTerms {
		s, sort := inParentheses(simplestForm(form.head, form.signs)...), "computation"
		if form.head == "pair" || form.head == "thunk" {
			sort = "value"
		}
		if impl.TermSort(s) != sort || impl.TermHead(s) != form.head {
			t.Errorf("%s: TermSort %q, TermHead %q", s, impl.TermSort(s), impl.TermHead(s))
		}
	}
}

// TestPartsOfEachKind puts parts of all kinds in all places of a term with parts.
func TestPartsOfEachKind(t *testing.T) {
	kinds := map[string]string{
		"V": "0|1|(pair 0 1)|(thunk (return x))|(thunk (fail (f b)))", "M": "(return z)|(force x)|(get x (return x))|(fail (> b (f b)))|(try (return 0) (return 1))",
		"Vx": "z|c|z9|z000", "VxA": "b", "A": "(* b b)|(u (f b))", "C": "(f b)|(& (f b) (f b))",
		"": "x1234|return|fst|()|(x)|2|B|00|*|(pair 0)|(return)|(f (f b))|(u b)|zz| ",
	}
	for _, form := range formsOfTerms {
		words := simplestForm(form.head, form.signs)
		for i, sign := range form.signs {
			for kind, texts := range kinds {
				for _, text := range strings.Split(texts, "|") {
					changed := slices.Clone(words)
					changed[i+1] = text
					s := inParentheses(changed...)
					if got := impl.TermSort(s) != ""; got != strings.ContainsRune(kind, sign) {
						t.Errorf("TermSort(%s) = %q", s, impl.TermSort(s))
					}
				}
			}
		}
	}
}

// TestTermsWithAWrongByte changes texts of terms in one place, and holds what comes out against another way to read texts.
func TestTermsWithAWrongByte(t *testing.T) {
	texts := []string{
		"x", "x12", "a123", "0", "(pair x1 (thunk (force b)))", "(get x (put x (return (pair x 1))))", "(lam x (* b (u (f b))) (fail (& (f b) (> b (f b)))))",
		"(to (return 0) x1 (split x1 x x2 (return x)))", "(if x (fst (both (return 0) (force f))) (snd (try (return 0) (return 1))))", "(app (lam a b (return a)) 1)", "(to (get a (return a)) b (return b))",
	}
	for _, form := range formsOfTerms {
		texts = append(texts, inParentheses(simplestForm(form.head, form.signs)...))
	}
	signs := []string{"", " ", "(", ")", "*", ">", "&", "b", "u", "f", "x", "0", "1", "7", "B", "M", "-", "\n", "\x00", "\xe9"}
	for _, s := range texts {
		for i := range len(s) + 1 {
			for _, sign := range signs {
				wantRecognized(t, s[:i]+sign+s[i:])
				if i < len(s) {
					wantRecognized(t, s[:i]+sign+s[i+1:])
				}
			}
		}
	}
}

func wantRecognized(t *testing.T, s string) {
	t.Helper()
	if got, want := impl.TermSort(s), recognizedSort(s); got != want {
		t.Fatalf("TermSort(%q) = %q, want %q", s, got, want)
	}
}

// TestTermsWithAWrongWord takes, doubles or changes one word or sign of a larger term.
func TestTermsWithAWrongWord(t *testing.T) {
	d := newTermDice(4)
	vocabulary := []string{"(", ")", "0", "x", "y", "b", "return", "(return 0)", "(thunk (return 0))", "(f b)", "(u (f b))", "pair", "get", "split", "to", "x1234", "2"}
	terms := 0
	for range 4000 {
		words := wordsOf(d.term('M', 4).text())
		i, j := d.IntN(len(words)), d.IntN(len(words))
		switch d.IntN(4) {
		case 0:
			words = slices.Delete(words, i, i+1)
		case 1:
			words = slices.Insert(words, i, words[j])
		case 2:
			words[i], words[j] = words[j], words[i]
		case 3:
			words[i] = d.one(vocabulary...)
		}
		s := textOfWords(words)
		wantRecognized(t, s)
		if impl.TermSort(s) != "" {
			terms++
		}
	}
	if terms < 100 || terms > 3900 {
		t.Errorf("%d of 4000 changed texts are terms", terms)
	}
}

// wordsOf returns the atoms and parentheses of a text, and textOfWords lays them out again.
func wordsOf(s string) []string {
	return strings.Fields(strings.ReplaceAll(strings.ReplaceAll(s, "(", " ( "), ")", " ) "))
}

func textOfWords(words []string) string {
	return strings.NewReplacer("( ", "(", " )", ")").Replace(strings.Join(words, " "))
}

func TestNames(t *testing.T) {
	for c := range 256 {
		one := string([]byte{byte(c)})
		letter, digit := 'a' <= c && c <= 'z', '0' <= c && c <= '9'
		for s, want := range map[string]bool{one: letter, one + "1": letter, one + "123": letter, one + "1234": false, "x" + one: digit, "x1" + one: digit, "x12" + one: digit, "x123" + one: false, "x" + one + "1": digit, "": false} {
			wantName(t, s, want)
		}
	}
	for _, s := range []string{"to", "if", "fst", "snd", "get", "put", "try", "app", "lam", "pair", "fail", "both", "name", "bit", "xy", "x y", "(x)", "x\x00", "0", "1", "x١"} {
		wantName(t, s, false)
	}
}

// wantName wants that a text is a name, or none, wherever a name may stand.
func wantName(t *testing.T, s string, want bool) {
	t.Helper()
	texts := []string{"(get " + s + " (return 0))", "(to (return 0) " + s + " (return 0))", "(lam " + s + " b (return 0))", "(split 0 " + s + " y7 (return 0))", "(split 0 y7 " + s + " (return 0))"}
	for _, text := range texts {
		if got := impl.TermSort(text) != ""; got != want {
			t.Errorf("TermSort(%q) = %q", text, impl.TermSort(text))
		}
	}
	if got := impl.TermHead(s) == "name"; got != want {
		t.Errorf("TermHead(%q) = %q", s, impl.TermHead(s))
	}
	uses, put, ok := impl.TermUses("(return 0)", s), "", false
	if put, ok = impl.TermPut("(return 0)", s, "1"); ok != want || (put != "") != want || uses != map[bool]int{true: 0, false: -1}[want] {
		t.Errorf("TermPut((return 0), %q, 1) = %q, %v, and TermUses %d", s, put, ok, uses)
	}
}

// TestBoundAndFreeNames holds what the document says of names against terms in which they are bound twice, or free in one part and bound in another.
func TestBoundAndFreeNames(t *testing.T) {
	for _, w := range []struct{ s, canon, free string }{
		// bound twice, within each other
		{"(get x (get x (return x)))", "(get n0 (get n1 (return n1)))", ""},
		{"(get x (to (return x) x (return x)))", "(get n0 (to (return n0) n1 (return n1)))", ""},
		{"(lam x b (split (pair x x) y x (return (pair x y))))", "(lam n0 b (split (pair n0 n0) n1 n2 (return (pair n2 n1))))", ""},
		{"(get x (both (get x (return x)) (return x)))", "(get n0 (both (get n1 (return n1)) (return n0)))", ""},
		{"(get x (get y (get x (return (pair x y)))))", "(get n0 (get n1 (get n2 (return (pair n2 n1)))))", ""},
		{"(split 0 x y (split 1 y x (return (pair x y))))", "(split 0 n0 n1 (split 1 n2 n3 (return (pair n3 n2))))", ""},
		// bound twice, side by side
		{"(both (get x (return x)) (get x (return x)))", "(both (get n0 (return n0)) (get n1 (return n1)))", ""},
		{"(to (get x (return x)) x (return x))", "(to (get n1 (return n1)) n0 (return n0))", ""},
		{"(return (pair (thunk (get x (return x))) (thunk (lam x b (return x)))))", "(return (pair (thunk (get n0 (return n0))) (thunk (lam n1 b (return n1)))))", ""},
		// free in one part and bound in another
		{"(to (return x) x (return x))", "(to (return x) n0 (return n0))", "x"},
		{"(split x x y (return x))", "(split x n0 n1 (return n0))", "x"},
		{"(split (pair y x) y x (get x (return (pair x y))))", "(split (pair y x) n0 n1 (get n2 (return (pair n2 n0))))", "y x"},
		{"(if x (get x (return x)) (return x))", "(if x (get n0 (return n0)) (return x))", "x"},
		{"(app (lam x b (return x)) x)", "(app (lam n0 b (return n0)) x)", "x"},
		{"(put x (get x (put x (return x))))", "(put x (get n0 (put n0 (return n0))))", "x"},
		{"(try (get x (return x)) (force x))", "(try (get n0 (return n0)) (force x))", "x"},
		{"(both (get x (return y)) (get y (return x)))", "(both (get n0 (return y)) (get n1 (return x)))", "y x"},
		// free names that look like canonical ones
		{"(get x (return (pair n0 x)))", "(get n1 (return (pair n0 n1)))", "n0"},
		{"(get x (return (pair n00 x)))", "(get n0 (return (pair n00 n0)))", "n00"},
		{"(get n1 (return (pair n1 n0)))", "(get n1 (return (pair n1 n0)))", "n0"},
		{"(get n0 (return (pair n0 n1)))", "(get n0 (return (pair n0 n1)))", "n1"},
		{"(to (return n0) n0 (get n1 (return (pair n0 n1))))", "(to (return n0) n1 (get n2 (return (pair n1 n2))))", "n0"},
		{"(get n1 (get n0 (return (pair n0 n1))))", "(get n0 (get n1 (return (pair n1 n0))))", ""},
		{"(split n1 x y (get z (return (pair n3 z))))", "(split n1 n0 n2 (get n4 (return (pair n3 n4))))", "n1 n3"},
		{"(both (get x (return n0)) (get x (return n1)))", "(both (get n2 (return n0)) (get n3 (return n1)))", "n0 n1"},
		// what a term binds comes ahead of all within its parts, in order
		{"(split (thunk (get a (return a))) x y (get c (return x)))", "(split (thunk (get n2 (return n2))) n0 n1 (get n3 (return n0)))", ""},
		{"(to (to (get a (return a)) c (return c)) d (get e (return d)))", "(to (to (get n2 (return n2)) n1 (return n1)) n0 (get n3 (return n0)))", ""},
		{"(if (thunk (get a (return 0))) (get a (return 0)) (get a (return 0)))", "(if (thunk (get n0 (return 0))) (get n1 (return 0)) (get n2 (return 0)))", ""},
		// names that look like types
		{"(lam b b (return b))", "(lam n0 b (return n0))", ""},
		{"(lam f (u (f b)) (to (force f) u (return (pair u b))))", "(lam n0 (u (f b)) (to (force n0) n1 (return (pair n1 b))))", "b"},
		{"(try (fail (f b)) (return b))", "(try (fail (f b)) (return b))", "b"},
	} {
		free, ok := impl.TermFree(w.s)
		if !ok || strings.Join(free, " ") != w.free || impl.TermClosed(w.s) != (w.free == "") {
			t.Errorf("TermFree(%s) = %q, %v, TermClosed %v", w.s, free, ok, impl.TermClosed(w.s))
		}
		if canon, ok := impl.TermCanon(w.s); !ok || canon != w.canon {
			t.Errorf("TermCanon(%s) = %s, %v, want %s", w.s, canon, ok, w.canon)
		}
		wantAlike(t, w.s, w.canon, true)
	}
}

func TestTermsThatAreNotAlike(t *testing.T) {
	for _, w := range [][2]string{
		{"x", "y"}, {"0", "1"}, {"0", "x"}, {"x", "(pair x x)"}, {"(return x)", "(return y)"}, {"(return x)", "(force x)"}, {"(return 0)", "(return 1)"}, {"(fst (return 0))", "(snd (return 0))"},
		{"(get x (return x))", "(get x (return y))"}, {"(get x (return x))", "(get y (return x))"}, {"(get x (get y (return x)))", "(get x (get y (return y)))"}, {"(get x (return x))", "(get x (return 0))"},
		{"(split 0 x y (return x))", "(split 0 x y (return y))"}, {"(split 0 x y (return x))", "(split 0 y x (return x))"}, {"(split x x y (return x))", "(split y x y (return x))"},
		{"(lam x b (return x))", "(lam x (* b b) (return x))"}, {"(fail (f b))", "(fail (f (* b b)))"}, {"(lam x b (return 0))", "(get x (return 0))"}, {"(to (return x) x (return 0))", "(to (return y) x (return 0))"},
		{"(both (return 0) (return 1))", "(both (return 1) (return 0))"}, {"(get x (get x (return x)))", "(get x (get y (return x)))"}, {"(pair x y)", "(pair y x)"},
	} {
		wantAlike(t, w[0], w[1], false)
	}
	for _, w := range [][2]string{
		{"(get x (return x))", "(get y (return y))"}, {"(split 0 x y (return x))", "(split 0 y x (return y))"}, {"(get x (get x (return x)))", "(get x (get y (return y)))"}, {"(to (return x) x (return x))", "(to (return x) y (return y))"},
		{"(get x (return n0))", "(get y (return n0))"}, {"(lam x b (return 0))", "(lam y b (return 0))"},
	} {
		wantAlike(t, w[0], w[1], true)
	}
}

func TestPuttingFreeNamesAlone(t *testing.T) {
	for _, w := range []struct {
		s, name, by, want string
		uses              int
	}{
		{"x", "x", "0", "0", 1},
		{"x", "y", "0", "x", 0},
		{"(pair x (pair y x))", "x", "1", "(pair 1 (pair y 1))", 2},
		{"(get x (return x))", "x", "0", "(get x (return x))", 0},
		{"(to (return x) x (return x))", "x", "1", "(to (return 1) x (return x))", 1},
		{"(split x x y (return (pair x y)))", "x", "(pair 0 1)", "(split (pair 0 1) x y (return (pair x y)))", 1},
		{"(split y x y (return (pair x y)))", "y", "(pair 0 1)", "(split (pair 0 1) x y (return (pair x y)))", 1},
		{"(split z x y (return (pair x z)))", "z", "0", "(split 0 x y (return (pair x 0)))", 2},
		{"(lam x b (get y (return (pair x (pair y z)))))", "z", "(thunk (lam x b (return x)))", "(lam x b (get y (return (pair x (pair y (thunk (lam x b (return x))))))))", 1},
		{"(if x (get x (return x)) (put x (return x)))", "x", "1", "(if 1 (get x (return x)) (put 1 (return 1)))", 3},
		{"(both (get x (return y)) (get y (return y)))", "y", "0", "(both (get x (return 0)) (get y (return y)))", 1},
		{"(lam b b (return b))", "b", "0", "(lam b b (return b))", 0},
		{"(app (lam x b (return b)) b)", "b", "0", "(app (lam x b (return 0)) 0)", 2},
		{"(try (fail (f b)) (app (force f) b))", "f", "(thunk (lam x b (return b)))", "", 1},
		{"(try (fail (f b)) (app (force f) b))", "f", "(thunk (lam b b (return b)))", "(try (fail (f b)) (app (force (thunk (lam b b (return b)))) b))", 1},
	} {
		if put, ok := impl.TermPut(w.s, w.name, w.by); put != w.want || ok != (w.want != "") {
			t.Errorf("TermPut(%s, %s, %s) = %s, %v, want %s", w.s, w.name, w.by, put, ok, w.want)
		}
		if uses := impl.TermUses(w.s, w.name); uses != w.uses {
			t.Errorf("TermUses(%s, %s) = %d, want %d", w.s, w.name, uses, w.uses)
		}
	}
}

func TestPuttingWhatIsNoClosedValue(t *testing.T) {
	wrong := []string{"x", "y", "(pair 0 x)", "(pair y 0)", "(thunk (return x))", "(thunk (to (return x) x (return x)))", "(return 0)", "(fail (f b))", "(get x (return x))", "(f b)", "b", "x1000"}
	for _, by := range wrong {
		// It fails even if the name does not stand in the term, or is bound there.
		for _, s := range []string{"(return x)", "(return z)", "(get x (return x))", "0"} {
			wantNoPut(t, s, "x", by)
		}
	}
	for _, name := range []string{"", "0", "1", "x1000", "xx", "(x)", "(return x)", "x ", "X", "\xff", strings.Repeat("x", 1<<20)} {
		wantNoPut(t, "(return x)", name, "0")
		if uses := impl.TermUses("(return x)", name); uses != -1 {
			t.Errorf("TermUses((return x), %s) = %d", quoted(name), uses)
		}
	}
}

func TestResultsOfTermsShareNoMemory(t *testing.T) {
	s := "(split x a c (return (pair y (pair x a))))"
	for range 3 {
		kids, _ := impl.TermKids(s)
		free, _ := impl.TermFree(s)
		if !slices.Equal(kids, []string{"x", "(return (pair y (pair x a)))"}) || !slices.Equal(free, []string{"x", "y"}) {
			t.Errorf("TermKids(%s) = %q, TermFree %q behind a change of other results", s, kids, free)
		}
		for _, list := range [][]string{kids, free} {
			clear(list[:cap(list)])
		}
	}
}
