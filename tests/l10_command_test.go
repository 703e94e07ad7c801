package tests

import (
	"slices"
	"strings"
	"sync"
	"testing"

	"loop.example/pushvalue/impl"
)

// wantDialogue wants the answers to the lines of a script, each behind its line, and the last line of the output. The answers to the first lines alone are wanted, too.
func wantDialogue(t *testing.T, last string, dialogue ...string) {
	t.Helper()
	var lines, answers []string
	for pair := range slices.Chunk(dialogue, 2) {
		lines, answers = append(lines, pair[0]), append(answers, pair[1])
	}
	wantOutput(t, scriptOf(lines...), append(answers, last)...)
	for n := range lines {
		output := impl.Execute(scriptOf(lines[:n]...))
		if told, _, ok := strings.Cut(output, "atoms "); !ok || told != scriptOf(answers[:n]...) {
			t.Errorf("Execute(%q) = %q, want %q", scriptOf(lines[:n]...), output, answers[:n])
		}
	}
}

func TestWhatScriptsBeginWith(t *testing.T) {
	wantDialogue(t, "atoms 2 bit 0")
	wantDialogue(t, "atoms 2 bit 0", "show", "(return 0)", "type", "(f b)", "run", "(return 0) 0", "mean", "16", "simplify", "no", "show", "(return 0)")
	wantDialogue(t, "atoms 2 bit 0", "eval byvalue", "0 0", "eval byname", "(return 0) 0", "value", "ok", "show", "(return 0)", "name", "ok", "show", "(return 0)")
	// An element of (f b) is what comes from 0 and 5 times what comes from 1, each 0 for a failure, and otherwise 1, twice the state behind and the bit together.
	wantDialogue(t, "atoms 12 bit 0", "define", "ok", "show", "(get k0 (if k0 (put 1 (return 0)) (put 0 (return 0))))", "define", "ok", "mean", "16")
}

func TestTermsOfScripts(t *testing.T) {
	wantDialogue(t, "atoms 5 bit 0", "term (pair 1 (pair 0 1))", "ok", "show", "(pair 1 (pair 0 1))", "type", "(* b (* b b))", "mean", "5", "run", "no", "simplify", "no", "show", "(pair 1 (pair 0 1))")
	wantDialogue(t, "atoms 1 bit 0", "term 1", "ok", "show", "1", "type", "b", "mean", "1", "run", "no")
	// The names of the term stay until it becomes another one.
	wantDialogue(t, "atoms 4 bit 0", "term (get x (to (return x) y (return y)))", "ok", "show", "(get x (to (return x) y (return y)))", "simplify", "ok", "show", "(get n0 (return n0))", "simplify", "no", "show", "(get n0 (return n0))")
	wantDialogue(t, "atoms 2 bit 0", "term (app (lam x b (to (return x) y (return y))) 1)", "ok", "simplify", "ok", "show", "(to (return 1) n0 (return n0))", "simplify", "ok", "simplify", "no", "show", "(return 1)")
	// without a type, and with a type and no meaning
	wantDialogue(t, "atoms 3 bit 0", "term (fst (return 0))", "ok", "type", "no", "mean", "no", "define", "no", "run", "no", "simplify", "no", "show", "(fst (return 0))")
	wantDialogue(t, "atoms 5 bit 0", "term (force (thunk (force 0)))", "ok", "type", "no", "run", "no", "simplify", "ok", "show", "(force 0)", "simplify", "no", "term (lam x b (lam y b (return x)))", "ok", "type", "(> b (> b (f b)))", "mean", "no", "define", "no", "run", "lam 0", "term (lam x b (return x))", "ok")
	wantDialogue(t, "atoms 6 bit 0", "term (both (return 0) (lam x b (return x)))", "ok", "type", "(& (f b) (> b (f b)))", "mean", "no", "run", "both 0", "term (fail (& (f b) (f b)))", "ok", "run", "fail 0", "mean", "0", "type", "(& (f b) (f b))")
	// runs without an end
	endless := appliedToItself(selfApplied)
	wantDialogue(t, "atoms 20 bit 1", "bit 1", "ok", "term "+endless, "ok", "run", "no", "type", "no", "simplify", "ok", "simplify", "ok", "run", "no", "bit 0", "ok", "run", "no", "bit 1", "ok")
}

func TestBitsOfScripts(t *testing.T) {
	wantDialogue(t, "atoms 2 bit 1", "bit 1", "ok")
	wantDialogue(t, "atoms 2 bit 0", "bit 0", "ok")
	wantDialogue(t, "atoms 2 bit 0", "bit 1", "ok", "bit 1", "ok", "bit 0", "ok", "bit 2", "no")
	wantDialogue(t, "atoms 2 bit 1", "bit 1", "ok", "bit 2", "no", "bit ", "no", "bit 00", "no", "bit 0 ", "no", "bit  0", "no", "bit -0", "no", "bit x", "no", "bit 10", "no", "bit 01", "no", "bit", "what", "bit0", "what")
	// A run begins with the bit, but leaves it as it was.
	wantDialogue(t, "atoms 6 bit 1", "term (get x (put 0 (return x)))", "ok", "run", "(return 0) 0", "bit 1", "ok", "run", "(return 1) 0", "run", "(return 1) 0", "mean", "11")
	wantDialogue(t, "atoms 4 bit 0", "term (put 1 (return 0))", "ok", "run", "(return 0) 1", "run", "(return 0) 1", "bit 1", "ok", "run", "(return 0) 1", "bit 0", "ok")
	wantDialogue(t, "atoms 9 bit 1", "term (get x (if x (fail (f b)) (return x)))", "ok", "run", "(return 0) 0", "bit 1", "ok", "run", "fail 0")
	wantDialogue(t, "atoms 2 bit 0", "source (put 1)", "ok", "eval byvalue", "1 1", "eval byvalue", "1 1", "eval byname", "(return 1) 1", "eval byname", "(return 1) 1")
	wantDialogue(t, "atoms 2 bit 1", "source (if (get) (put 0) 1)", "ok", "eval byvalue", "1 0", "eval byname", "(return 1) 0", "bit 1", "ok", "eval byvalue", "0 0", "eval byname", "(return 0) 0", "eval byvalue", "0 0")
	wantDialogue(t, "atoms 2 bit 1", "source (if (get) (fail b) 1)", "ok", "eval byvalue", "1 0", "bit 1", "ok", "eval byvalue", "fail 0", "eval byname", "fail 0")
	// The bit stays where the term or the source expression changes.
	wantDialogue(t, "atoms 4 bit 1", "bit 1", "ok", "term (get x (return x))", "ok", "run", "(return 1) 1", "source (get)", "ok", "value", "ok", "run", "(return 1) 1", "define", "ok", "run", "(return 1) 1", "name", "ok", "run", "(return 1) 1")
}

func TestSourcesOfScripts(t *testing.T) {
	const s = "(app (lam x b (if x x 0)) (put 1))"
	wantDialogue(t, "atoms 25 bit 0", "source "+s, "ok", "show", "(return 0)", "eval byvalue", "1 1", "eval byname", "(return 1) 1", "show", "(return 0)", "name", "ok",
		"show", "(app (lam x (u (f b)) (to (force x) v0 (if v0 (force x) (return 0)))) (thunk (to (return 1) v1 (put v1 (return v1)))))", "run", "(return 1) 1", "type", "(f b)")
	wantDialogue(t, "atoms 27 bit 0", "source "+s, "ok", "value", "ok", "run", "(return 1) 1",
		"show", "(to (return (thunk (lam x b (to (return x) v2 (if v2 (return x) (return 0)))))) v0 (to (to (return 1) v3 (put v3 (return v3))) v1 (app (force v0) v1)))", "simplify", "ok", "run", "(return 1) 1")
	// By name an argument that is not used is not evaluated.
	wantDialogue(t, "atoms 2 bit 0", "source (fst (pair 0 (put 1)))", "ok", "eval byvalue", "0 1", "eval byname", "(return 0) 0", "name", "ok", "run", "(return 0) 0", "mean", "16", "value", "ok", "run", "(return 0) 1", "mean", "18", "term (return 1)", "ok", "eval byvalue", "0 1")
	wantDialogue(t, "atoms 2 bit 0", "source (pair 0 1)", "ok", "eval byvalue", "(pair 0 1) 0", "eval byname", "both 0", "source (lam x b x)", "ok", "eval byvalue", "thunk 0", "eval byname", "lam 0", "source (fail (> b b))", "ok", "eval byname", "fail 0", "eval byvalue", "fail 0")
	// The source expression stays where the term changes, and the term where the source expression does.
	wantDialogue(t, "atoms 4 bit 0", "source (get)", "ok", "term (pair 0 1)", "ok", "eval byname", "(return 0) 0", "value", "ok", "show", "(get v0 (return v0))", "term 1", "ok", "name", "ok", "show", "(get v0 (return v0))", "source 1", "ok", "show", "(get v0 (return v0))")
	wantDialogue(t, "atoms 1 bit 0", "source 1", "ok", "term 0", "ok", "source x", "no", "source (app 0 0)", "no", "source (return 0)", "no", "source ", "no", "source", "what", "eval byvalue", "1 0", "show", "0")
	// A source expression with a type may have no translation, or just one, or one without a type.
	wantDialogue(t, "atoms 2 bit 0", "source (fail (> (> b b) (> b b)))", "ok", "value", "no", "name", "no", "show", "(return 0)", "eval byname", "fail 0", "eval byvalue", "fail 0")
	wantDialogue(t, "atoms 13 bit 0", "source (fail (* (> b b) (> b b)))", "ok", "term 1", "ok", "name", "no", "show", "1", "value", "ok", "show", "(fail (f (* (u (> b (f b))) (u (> b (f b))))))", "name", "no", "type", "(f (* (u (> b (f b))) (u (> b (f b)))))")
	deep := nest(96, "(put ...)", "(fst (pair 1 0))")
	of, _ := impl.NameOf(deep)
	wantDialogue(t, lastLine(of, 0), "source "+deep, "ok", "term 1", "ok", "value", "no", "show", "1", "name", "ok", "value", "no", "show", of)
	wantDialogue(t, "atoms 1 bit 0", "source (lam x b (lam y b (lam z b x)))", "ok", "value", "ok", "type", "no", "mean", "no", "run", "(return thunk) 0", "name", "ok", "type", "no", "run", "lam 0", "term 0", "ok")
	// more evaluations than the fuel
	long := "(app (lam f (> b b) " + nest(7, thrice, "(fst (pair 1 (app f 0)))") + ") (lam x b x))"
	wantDialogue(t, "atoms 2 bit 1", "source "+long, "ok", "bit 1", "ok", "eval byvalue", "no", "eval byname", "(return 1) 1", "eval byvalue", "no")
}

func TestCountsOfScripts(t *testing.T) {
	wantDialogue(t, "atoms 2 bit 0", "count b", "2", "count (f b)", "25", "count (u (f b))", "25", "count (> b (f b))", "625", "count (& (f b) (f b))", "625", "count (* b (* b b))", "8", "count (f (* b b))", "81", "count (* (u (> b (f b))) (* b (* b b)))", "5000", "count (f (* b (u (f b))))", "no")
	wantDialogue(t, "atoms 2 bit 0", "count (> b (> b (f b)))", "no", "count (> (* b b) (f b))", "no", "count (u (> (u (f b)) (f b)))", "no", "count (> b b)", "no", "count c", "no", "count ", "no", "count  b", "no", "count b ", "no", "count b b", "no", "count (return 0)", "no", "count -1", "no", "count", "what", "show", "(return 0)")
}

func TestDefiningTermsOfScripts(t *testing.T) {
	wantDialogue(t, "atoms 12 bit 0", "term (get x (put 1 (return x)))", "ok", "mean", "23", "define", "ok", "show", "(get k0 (if k0 (put 1 (return 1)) (put 1 (return 0))))", "define", "ok", "show", "(get k0 (if k0 (put 1 (return 1)) (put 1 (return 0))))", "mean", "23")
	wantDialogue(t, "atoms 3 bit 0", "term (pair 1 0)", "ok", "define", "ok", "show", "(pair 1 0)", "mean", "2")
	wantDialogue(t, "atoms 13 bit 0", "term (thunk (return 1))", "ok", "define", "ok", "show", "(thunk (get k0 (if k0 (put 1 (return 1)) (put 0 (return 1)))))", "run", "no", "type", "(u (f b))", "simplify", "no", "mean", "22")
}

// TestLinesWithAndWithoutARest has the words with and without a rest that they should have.
func TestLinesWithAndWithoutARest(t *testing.T) {
	before := "term (get x (put 0 (return x)))\nsource (if (get) (put 0) 1)\nbit 1\n"
	behind := "show\nrun\neval byvalue\neval byname\ntype\nmean\n"
	want := []string{"(get x (put 0 (return x)))", "(return 1) 0", "0 0", "(return 0) 0", "(f b)", "11", "atoms 6 bit 1"}
	wantLine := func(line, answer string) {
		wantOutput(t, before+line+"\n"+behind, slices.Concat([]string{"ok", "ok", "ok", answer}, want)...)
		wantOutput(t, before+line+"\n"+line+"\n"+behind, slices.Concat([]string{"ok", "ok", "ok", answer, answer}, want)...)
	}
	for _, line := range otherLines() {
		wantLine(line, "what")
		wantOutput(t, line+"\n", "what", "atoms 2 bit 0")
	}
	for word, rests := range badRests() {
		for _, rest := range rests {
			wantLine(word+" "+rest, "no")
			wantOutput(t, word+" "+rest+"\n", "no", "atoms 2 bit 0")
		}
	}
	for word, told := range map[string][2]string{
		"value": {"ok", "atoms 18 bit 1"}, "name": {"ok", "atoms 18 bit 1"}, "simplify": {"no", "atoms 6 bit 1"}, "define": {"ok", "atoms 12 bit 1"},
		"show": {want[0], "atoms 6 bit 1"}, "run": {want[1], "atoms 6 bit 1"}, "type": {want[4], "atoms 6 bit 1"}, "mean": {want[5], "atoms 6 bit 1"},
	} {
		wantOutput(t, before+word+" \n"+word+"\n", "ok", "ok", "ok", "what", told[0], told[1])
	}
}

func TestScriptsOfAllKinds(t *testing.T) {
	t.Parallel()
	for _, w := range someScripts() {
		wantOutput(t, w.text, append(slices.Clone(w.answers), lastLine(w.behind.term, w.behind.bit))...)
	}
	for _, s := range slices.Concat(noTerms(), noTypes(), noSources()) {
		for _, script := range []string{s, s + "\n", "term " + s + "\n", "source " + s + "\nvalue\n", "count " + s + "\n", "bit " + s + "\nbit 1\n", "eval " + s + "\n", s + " 0\nshow\n", "show" + s + "\n"} {
			if got := impl.Execute(script); got != outputOf(script) {
				t.Fatalf("Execute(%s) = %s, want %s", quoted(script), quoted(got), quoted(outputOf(script)))
			}
		}
	}
}

// TestScriptsOfAnyBytes has bytes and pieces of lines by chance.
func TestScriptsOfAnyBytes(t *testing.T) {
	t.Parallel()
	d := newTermDice(11)
	pieces := append(slices.Concat(loneWords, restWords, strings.Split("0 1 x b (return 0) (f b) (get) byvalue byname (get x (return x)) (put 1)", " ")), " ", " ", " ", "\n", "\n", "\n", "\r\n", "\t", "(", ")", "\x00", "\xff", "é", "\u2028")
	answers := map[string]int{}
	for i := range 20000 {
		var script string
		for range d.IntN(40) {
			if i%2 == 0 {
				script += d.one(pieces...)
			} else {
				script += string([]byte{byte(d.IntN(256))})
			}
			if d.IntN(8) == 0 {
				script += "\n"
			}
		}
		got := impl.Execute(script)
		if got != outputOf(script) {
			t.Fatalf("Execute(%q) = %q, want %q", script, got, outputOf(script))
		}
		for _, line := range linesOf(got) {
			answers[line]++
		}
	}
	if answers["what"] < 20000 || answers["no"] < 100 || answers["ok"] < 100 {
		t.Errorf("%d lines are other ones, %d fail and %d are ok", answers["what"], answers["no"], answers["ok"])
	}
}

// TestScriptsAtOnce runs scripts at the same time and again, as nothing is kept from one to the next.
func TestScriptsAtOnce(t *testing.T) {
	t.Parallel()
	scripts := someScripts()[:400]
	var all sync.WaitGroup
	for part := range 8 {
		all.Go(func() {
			for i := range scripts {
				w := scripts[(i*7+part*50)%len(scripts)]
				want := scriptOf(append(slices.Clone(w.answers), lastLine(w.behind.term, w.behind.bit))...)
				if got := impl.Execute(w.text); got != want {
					t.Errorf("Execute(%q) = %q, want %q", w.text, got, want)
					return
				}
			}
		})
	}
	all.Wait()
}
