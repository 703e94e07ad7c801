package tests

import (
	"slices"
	"strings"
	"testing"

	"loop.example/pushvalue/impl"
)

func TestLimitOfScripts(t *testing.T) {
	if impl.MaxScript != mostOfScript {
		t.Errorf("MaxScript is %d", impl.MaxScript)
	}
	// Some scripts that can be made longer byte by byte, with the answers ahead of the last line if they have room.
	for _, w := range []struct {
		script  func(n int) string
		answers func(n int) []string
	}{
		{func(n int) string { return strings.Repeat("\n", n) }, func(n int) []string { return slices.Repeat([]string{"what"}, n) }},
		{func(n int) string { return strings.Repeat("x", n) }, func(int) []string { return nil }},
		{func(n int) string { return strings.Repeat("\xff", n) }, func(int) []string { return nil }},
		{func(n int) string { return strings.Repeat("\x00", n-1) + "\n" }, func(int) []string { return []string{"what"} }},
		{func(n int) string { return strings.Repeat("x", n-n%2) + strings.Repeat("\n", n%2) }, func(n int) []string { return slices.Repeat([]string{"what"}, n%2) }},
		{func(n int) string {
			return "bit 1\nbit 0\nrun\n" + strings.Repeat("é", (n-16)/2) + strings.Repeat(" ", n%2)
		}, func(int) []string { return []string{"ok", "ok", "(return 0) 0"} }},
		{func(n int) string { return "run\n" + strings.Repeat(" ", n-9) + "show\n" }, func(int) []string { return []string{"(return 0) 0", "what"} }},
		{func(n int) string { return strings.Repeat("show\n", (n-4)/5) + strings.Repeat("\n", (n-4)%5) + "run\n" }, func(n int) []string {
			return slices.Concat(slices.Repeat([]string{"(return 0)"}, (n-4)/5), slices.Repeat([]string{"what"}, (n-4)%5), []string{"(return 0) 0"})
		}},
		{func(n int) string { return "count " + strings.Repeat("(", n-11) + "\nrun\n" }, func(int) []string { return []string{"no", "(return 0) 0"} }},
		{func(n int) string { return "term " + strings.Repeat(" ", n-16) + "(return 0)\n" }, func(n int) []string {
			if n > 16 {
				return []string{"no"}
			}
			return []string{"ok"}
		}},
	} {
		for _, n := range []int{16, 17, 100, 255, 256, 257, 512, 898, 899, 900, 901, 902, 903, 1000, 1800, 12000, 1 << 16} {
			script := w.script(n)
			if len(script) != n {
				t.Errorf("a script of %d bytes, not %d", len(script), n)
			}
			if n > mostOfScript {
				wantOutput(t, script, "too long")
			} else {
				wantOutput(t, script, append(w.answers(n), "atoms 2 bit 0")...)
			}
		}
	}
	for _, s := range longTexts() {
		if len(s) > mostOfScript {
			wantOutput(t, s, "too long")
			wantOutput(t, s+"\n", "too long")
			wantOutput(t, "term "+s+"\n", "too long")
		}
	}
}

// computationOfGets returns a closed computation of so many bytes, from 666 to 912.
func computationOfGets(n int) string {
	missing := n - len(nest(82, "(get a ...)", "(return 0)"))
	s := "(return 0)"
	for range 82 {
		longer := min(missing, 3)
		s = "(get a" + strings.Repeat("0", longer) + " " + s + ")"
		missing -= longer
	}
	return s
}

// TestLongLines has a term and a source expression that fill a script just so, and with one byte more.
func TestLongLines(t *testing.T) {
	for _, behind := range []string{"", "show", "run\nshow"} {
		for more := range 2 {
			script := "term " + computationOfGets(mostOfScript-len("term \n")-len(behind)+more) + "\n" + behind
			if len(script) != mostOfScript+more {
				t.Errorf("%d bytes", len(script))
			}
			want := []string{"ok", "atoms 166 bit 0"}
			if strings.HasPrefix(behind, "run") {
				want = []string{"ok", "(return 0) 0", "atoms 166 bit 0"}
			}
			if more > 0 {
				want = []string{"too long"}
			}
			wantOutput(t, script, want...)
		}
	}
	source := "source (pair " + nest(73, "(put ...)", "0") + " " + nest(74, "(put ...)", "1") + ")\n"
	wantOutput(t, source, "ok", "atoms 2 bit 0")
	wantOutput(t, source+"x", "too long")
	if len(source) != mostOfScript {
		t.Errorf("%d bytes", len(source))
	}
}

// TestLongOutputs has terms that become much longer than a script, up to the limits of terms.
func TestLongOutputs(t *testing.T) {
	doubling := "(to (return 0) x " + nest(12, "(to (return (pair x x)) x ...)", "(return x)") + ")"
	lines, answers := []string{"term " + doubling}, []string{"ok"}
	for n := 1; n <= 11; n++ {
		lines, answers = append(lines, "simplify", "show"), append(answers, "ok")
		last, times, _ := impl.Simplify(doubling, n)
		if times < n {
			answers[len(answers)-1] = "no"
		}
		answers = append(answers, last)
	}
	last := answers[len(answers)-1]
	if answers[17] != "ok" || answers[19] != "no" || len(last) < 4000 {
		t.Errorf("%s is simplified to %d bytes, with the answers %q", doubling, len(last), []string{answers[17], answers[19]})
	}
	wantOutput(t, scriptOf(lines...), append(answers, lastLine(last, 0))...)

	chain := nest(40, "(force (thunk ...))", "(return 0)")
	lines, answers = []string{"term " + chain}, []string{"ok"}
	for range 25 {
		lines, answers = append(lines, "simplify"), append(answers, "ok")
	}
	wantOutput(t, scriptOf(lines...), append(answers, "atoms 32 bit 0")...)

	large := "(fst (app (lam v b (pair v " + nest(25, "(if (get) v ...)", "(put v)") + ")) (get)))"
	value, _ := impl.ValueOf(large)
	name, _ := impl.NameOf(large)
	wantOutput(t, "source "+large+"\nvalue\nshow\nshow\nname\nshow\nshow\n", "ok", "ok", value, value, "ok", name, name, lastLine(name, 0))
	if min(len(value), len(name)) < mostOfScript {
		t.Errorf("translations of %d and %d bytes", len(value), len(name))
	}
}

// longRun returns a computation of few bytes that takes so many steps, at least 5000, and returns 1.
func longRun(steps int) string {
	again := func(list string) string { return "(app (app (force x) x) " + list + ")" }
	s := nest(steps-5000, "(put 1 ...)", "(return 1)")
	// A list of n bits 0 and a bit 1 takes 16 * 2^n - 9 steps, and 2 with the to around it: in all 4998.
	for _, n := range []int{8, 5, 4, 3, 1, 0} {
		s = "(to " + again(nest(n, "(pair 0 ...)", "(pair 1 0)")) + " y " + s + ")"
	}
	return "(to (return (thunk (lam x b (lam l b (split l c l (if c (return 1) (to " + again("l") + " y " + again("l") + "))))))) x " + s + ")"
}

// TestLinesWithAllTheFuel has runs and evaluations that need just all the fuel, and one more.
func TestLinesWithAllTheFuel(t *testing.T) {
	wantRun(t, longRun(impl.FuelMax), 0, impl.FuelMax, "(return 1)", 0, impl.FuelMax)
	for more := range 2 {
		run, byValue, byName := longRun(impl.FuelMax+more), costlyByValue(impl.FuelMax+more), costlyByName(impl.FuelMax+more)
		ended := func(end string) string { return []string{end, "no"}[more] }
		for _, bit := range []string{"0", "1"} {
			wantOutput(t, scriptOf("bit "+bit, "term "+run, "run", "run"), "ok", "ok", ended("(return 1) "+bit), ended("(return 1) "+bit), lastLine(run, int(bit[0]-'0')))
			wantOutput(t, scriptOf("bit "+bit, "source "+byValue, "eval byvalue"), "ok", "ok", ended("0 0"), "atoms 2 bit "+bit)
			wantOutput(t, scriptOf("bit "+bit, "source "+byName, "eval byname"), "ok", "ok", ended("(return 0) 0"), "atoms 2 bit "+bit)
		}
	}
}

// TestManySlowLines has terms and source expressions whose lines take long, as often as they have room.
func TestManySlowLines(t *testing.T) {
	t.Parallel()
	for _, first := range []string{
		"term " + appliedToItself(selfApplied), "term " + appliedToItself(growing), "term " + nest(40, "(app (lam x b ...) 0)", "(return x)"), "term " + nest(24, "(to (return (thunk ...)) x (force x))", "(get y (return y))"), "term " + nest(20, "(to ... x (get y (return y)))", "(return 0)"), "term " + nest(45, "(get x (put x ...))", "(return x)"),
		"term (return (thunk (lam x b (get y (return y)))))", "term (get x (return (pair x (pair x (pair x (pair x x))))))", "term (to (return 0) x " + nest(9, "(to (return (pair x x)) x ...)", "(return x)") + ")", "term " + nest(9, "(both (return 0) ...)", "(return 1)"),
		"source (app (lam f (> b b) " + nest(7, thrice, "(app f (get))") + ") (lam x b x))", "source " + nest(14, "(app (lam x b (if x x x)) ...)", "(get)"),
	} {
		lines := []string{"simplify", "run", "mean", "define", "type"}
		if strings.HasPrefix(first, "source") {
			lines = []string{"value", "name", "eval byvalue", "eval byname"}
		}
		for _, line := range lines {
			script := first + "\n"
			script += strings.Repeat(line+"\n", (mostOfScript-len(script))/(len(line)+1))
			if strings.Count(script, "\n") < 5 {
				t.Errorf("%s has no room", quoted(script))
			}
			want := outputOf(script)
			if got := impl.Execute(script); got != want || !strings.HasPrefix(got, "ok\n") {
				t.Errorf("Execute(%s) = %s, want %s", quoted(script), quoted(got), quoted(want))
			}
		}
	}
}
