package tests

import (
	"math"
	"slices"
	"strings"
	"testing"

	"loop.example/pushvalue/impl"
)

// Each test of this file holds a promise of chapter 4 against states and computations for which the document's rules tell what is to come, and against invalid ones.

// noBits returns numbers that are no bits.
func noBits() []int { return []int{-1, 2, 3, 10, 256, 1 << 32, math.MinInt, math.MaxInt} }

// notClosedComputations returns texts that are no closed computations.
func notClosedComputations() []string {
	texts := []string{
		"0", "1", "x", "(pair 0 1)", "(thunk (return 0))", "(return x)", "(force f)", "(get x (return y))", "(lam x b (force f))", "(to (return x) x (return x))", "(app (lam x b (return x)) x)", "(split x x y (return x))", "(put x (return 0))",
		"(if x (return 0) (return 1))", "(try (return 0) (return x))", "(both (return 0) (return z))", "(fst (both (return 0) (return z)))", "(return (thunk (return z)))",
	}
	return append(texts, noTerms()...)
}

// noFrames returns texts that are no frames.
func noFrames() []string {
	texts := []string{
		"", " ", "0", "x", "to", "app", "try", "return", "lam", "both", "if", "fail", "get", "fstsnd", "fs", "FST", "fst ", " fst", "snd\n", "(fst)", "(snd)", "(fst (return 0))", "(snd (return 0))", "(fst 0)", "fst fst", "()", "(", ")", "((fst))",
		// to
		"(to)", "(to )", "(to x)", "(to x )", "(to (return 0))", "(to x 0)", "(to x x)", "(to x (pair x x))", "(to x (thunk (return x)))", "(to x (return y))", "(to x (return (pair x y)))", "(to y (get x (return (pair x z))))", "(to x (lam y b (force z)))",
		"(to 0 (return 0))", "(to x1000 (return 0))", "(to xx (return 0))", "(to X (return 0))", "(to (x) (return 0))", "(to to (return 0))", "(to  (return 0))", "(to x  (return x))", "(to x (return  x))", "(to  x (return x))", "( to x (return x))", "(to x (return x) )", " (to x (return x))", "(to x (return x)) ",
		"(to x (return x)", "to x (return x))", "to x (return x)", "(to x (return x)))", "((to x (return x)))", "(to x y (return x))", "(to x (return x) y)", "(to x (return x) (return x))", "(to (return 0) x (return x))", "(to x return x)", "(to\tx (return x))", "(to x (return x))\n", "(to x (return x)\x00)", "(to x(return x))", "(to x \xff)",
		// app
		"(app)", "(app )", "(app x)", "(app (pair 0 x))", "(app (thunk (return x)))", "(app (return 0))", "(app (get x (return x)))", "(app 2)", "(app 00)", "(app 0 1)", "(app  0)", "(app 0 )", "( app 0)", " (app 0)", "(app 0) ", "(app 0", "app 0)", "app 0", "(app 0))", "((app 0))", "(app (0))", "(app (lam x b (return x)) 0)", "(app\n0)", "(app fst)", "(app b)",
		// try
		"(try)", "(try )", "(try 0)", "(try (return 0))", "(try (return 0) )", "(try (return 0) 2)", "(try (return 0) -1)", "(try (return 0) 00)", "(try (return 0) 01)", "(try (return 0) 10)", "(try (return 0) x)", "(try (return 0) 0 1)", "(try (return 0) 0 0)", "(try (return x) 0)", "(try (get x (return y)) 1)", "(try 0 0)", "(try x 0)", "(try (pair 0 1) 0)", "(try (thunk (return 0)) 1)",
		"(try 0 (return 0))", "(try (return 0)  0)", "(try  (return 0) 0)", "( try (return 0) 0)", "(try (return 0) 0 )", " (try (return 0) 0)", "(try (return 0) 0) ", "(try (return 0) 0", "try (return 0) 0)", "try (return 0) 0", "(try (return 0)0)", "(try (return 0) (return 0))", "(try (return 0) (return 0) 0)", "(try return 0 0)", "((try (return 0) 0))", "(try (return 0) (0))", "(try (return 0) b)",
		// words of other forms
		"(return 0)", "(force (thunk (return 0)))", "(lam x b (return x))", "(if (return 0) (return 1))", "(if 0 (return 0) (return 1))", "(split x y (return x))", "(both (return 0))", "(both (return 0) (return 1))", "(get x (return x))", "(put 0 (return 0))", "(fail (f b))", "(pair 0 1)", "(thunk (return 0))", "(put 0)", "(force 0)", "(arg 0)", "(To x (return x))",
		// the terms in them are too large
		"(to x " + computationOfAtoms(impl.TermMax+1) + ")", "(app " + pairsOf(impl.TermMax/2+1, "0") + ")", "(try " + computationOfAtoms(impl.TermMax+1) + " 0)", "(to a " + computationOfBytes(impl.TextMax+1) + ")", "(to x " + nested(101, "x") + ")", "(try " + nested(101, "0") + " 1)", "(app (thunk " + nested(101, "0") + "))",
		"(to x (fail " + computationTypeOf13 + "))", "(try (lam x " + valueTypeOf13 + " (return x)) 0)",
	}
	return append(texts, strings.Repeat("(", 1<<20), "(to x "+strings.Repeat("(", 1<<20), strings.Repeat("fst", 1<<20))
}

// noStates returns states that are not valid.
func noStates() []impl.State {
	fine := []string{"(try (return 1) 0)", "fst", "(to x (return x))"}
	states := []impl.State{{}, {Stack: fine}, {Comp: "(return 0)", Stack: slices.Repeat([]string{"fst"}, impl.StackMax+1)}, {Comp: "(return 0)", Stack: slices.Repeat([]string{"(to x (return x))"}, 1<<16)}}
	for _, bit := range noBits() {
		states = append(states, impl.State{Comp: "(return 0)", Bit: bit}, impl.State{Comp: "(return 0)", Stack: fine, Bit: bit}, impl.State{Comp: "(force 0)", Bit: bit})
	}
	for i, s := range notClosedComputations() {
		states = append(states, impl.State{Comp: s, Bit: i % 2}, impl.State{Comp: s, Stack: fine, Bit: i % 2})
	}
	for i, f := range noFrames() {
		for _, comp := range []string{"(return 0)", "(fst (return 0))", "(fail (f b))"} {
			states = append(states, impl.State{Comp: comp, Stack: []string{f}, Bit: i % 2})
		}
		states = append(states, impl.State{Comp: "(return 0)", Stack: slices.Concat([]string{f}, fine), Bit: i % 2}, impl.State{Comp: "(return 0)", Stack: append(slices.Clone(fine), f)}, impl.State{Comp: "(return 0)", Stack: slices.Insert(slices.Clone(fine), 1, f), Bit: 1})
	}
	return states
}

func isZero(s impl.State) bool { return s.Comp == "" && len(s.Stack) == 0 && s.Bit == 0 }

func sameState(a, b impl.State) bool {
	return a.Comp == b.Comp && slices.Equal(a.Stack, b.Stack) && a.Bit == b.Bit
}

// wantInvalid wants that a state is not valid and that all of it fails.
func wantInvalid(t *testing.T, s impl.State) {
	t.Helper()
	next, steps := impl.StateStep(s)
	end, ends := impl.StateEnd(s)
	plug, plugs := impl.StatePlug(s)
	if impl.StateValid(s) || impl.StateStuck(s) || steps || ends || plugs || !isZero(next) || end != "" || plug != "" {
		t.Errorf("%s: StateValid %v, StateStuck %v, StateStep %v, StateEnd %v, StatePlug %v", quoted(stateText(s)), impl.StateValid(s), impl.StateStuck(s), steps, ends, plugs)
	}
}

func TestPromise28PureRuns(t *testing.T) {
	runs := 0
	for _, m := range closedComputations() {
		if !m.pure() {
			continue
		}
		s := m.text()
		print0, bit0, steps0, ok0 := impl.Run(s, 0, 500)
		print1, bit1, steps1, ok1 := impl.Run(s, 1, 500)
		if ok0 != ok1 || print0 != print1 || steps0 != steps1 {
			t.Fatalf("Run(%s) = %s, %d, %v and %s, %d, %v", s, print0, steps0, ok0, print1, steps1, ok1)
		}
		if ok0 && (bit0 != 0 || bit1 != 1) {
			t.Fatalf("Run(%s) leaves the bits %d and %d", s, bit0, bit1)
		}
		if ok0 && steps0 > 0 {
			runs++
		}
	}
	if runs < 100 {
		t.Errorf("just %d pure computations come to an end", runs)
	}
}

func TestPromise29OneOfThree(t *testing.T) {
	t.Parallel()
	for _, s := range someStates() {
		_, what := s.step()
		given := s.state()
		_, steps := impl.StateStep(given)
		_, ends := impl.StateEnd(given)
		stuck := impl.StateStuck(given)
		if !impl.StateValid(given) || steps != (what == goesOn) || ends != (what == isEnd) || stuck != (what == isStuck) {
			t.Fatalf("%s: StateValid %v, StateStep %v, StateEnd %v, StateStuck %v, want %s", s.text(), impl.StateValid(given), steps, ends, stuck, what)
		}
	}
	for _, s := range noStates() {
		wantInvalid(t, s)
	}
}

func TestPromise30Starts(t *testing.T) {
	for _, m := range closedComputations() {
		for bit := range 2 {
			s, ok := impl.StateStart(m.text(), bit)
			if !ok || !sameState(s, impl.State{Comp: m.text(), Bit: bit}) || !impl.StateValid(s) {
				t.Fatalf("StateStart(%s, %d) = %s, %v", m.text(), bit, stateText(s), ok)
			}
			plug, ok := impl.StatePlug(s)
			if want := putMade(bit, m); ok != fitsLimits(want) || ok && plug != want.text() {
				t.Fatalf("StatePlug(%s) = %s, %v", stateText(s), plug, ok)
			}
		}
	}
	for _, s := range notClosedComputations() {
		for _, bit := range []int{0, 1, 2} {
			wantNoStart(t, s, bit)
		}
	}
	for _, bit := range noBits() {
		wantNoStart(t, "(return 0)", bit)
		wantNoStart(t, "(get x (return x))", bit)
	}
}

func wantNoStart(t *testing.T, s string, bit int) {
	t.Helper()
	if state, ok := impl.StateStart(s, bit); ok || !isZero(state) {
		t.Errorf("StateStart(%s, %d) = %s, %v", quoted(s), bit, quoted(stateText(state)), ok)
	}
	wantNoRun(t, s, bit, 0)
	wantNoRun(t, s, bit, 500)
}

// wantNoRun wants that all runs fail.
func wantNoRun(t *testing.T, s string, bit, fuel int) {
	t.Helper()
	print, end, steps, ran := impl.Run(s, bit, fuel)
	state, n, many := impl.RunMany(s, bit, fuel)
	if ran || print != "" || end != 0 || steps != 0 || impl.RunStuck(s, bit, fuel) || many || !isZero(state) || n != 0 {
		t.Errorf("%s from %d with %d: Run %s, %d, %d, %v, RunStuck %v, RunMany %d, %v", quoted(s), bit, fuel, print, end, steps, ran, impl.RunStuck(s, bit, fuel), n, many)
	}
}

// plugType returns the type of what a state means, or "".
func plugType(s impl.State) string {
	plug, _ := impl.StatePlug(s)
	typ, _ := impl.TermType(nil, nil, plug)
	return typ
}

func TestPromise31Steps(t *testing.T) {
	t.Parallel()
	typed := 0
	for _, s := range someStates() {
		want, what := s.step()
		if what != goesOn {
			continue
		}
		given := s.state()
		next, ok := impl.StateStep(given)
		if !ok || !sameState(next, want.state()) {
			t.Fatalf("StateStep(%s) = %s, %v, want %s", s.text(), stateText(next), ok, want.text())
		}
		if !impl.StateValid(next) || len(next.Stack) > len(given.Stack)+1 {
			t.Fatalf("StateStep(%s) = %s, StateValid %v", s.text(), stateText(next), impl.StateValid(next))
		}
		typ := plugType(given)
		if _, ok := impl.StatePlug(next); typ != "" && ok {
			typed++
			if behind := plugType(next); behind != typ {
				t.Fatalf("%s means what has the type %s, and %s behind it %s", s.text(), typ, stateText(next), behind)
			}
		}
	}
	if typed < 1000 {
		t.Errorf("just %d states with a type took a step", typed)
	}
}

func TestPromise32Ends(t *testing.T) {
	for _, s := range someStates() {
		_, what := s.step()
		given := s.state()
		print, ok := impl.StateEnd(given)
		if what != isEnd {
			if ok || print != "" {
				t.Fatalf("StateEnd(%s) = %s, %v", s.text(), print, ok)
			}
			continue
		}
		if !ok || print != s.print() || (print == "fail") != (s.comp.head == "fail") {
			t.Fatalf("StateEnd(%s) = %s, %v, want %s", s.text(), print, ok, s.print())
		}
		if next, ok := impl.StateStep(given); ok || !isZero(next) || impl.StateStuck(given) {
			t.Fatalf("%s is at its end: StateStep %s, %v, StateStuck %v", s.text(), stateText(next), ok, impl.StateStuck(given))
		}
	}
}

func TestPromise33StuckStates(t *testing.T) {
	for _, s := range someStates() {
		_, what := s.step()
		given := s.state()
		if impl.StateStuck(given) != (what == isStuck) {
			t.Fatalf("StateStuck(%s) = %v", s.text(), impl.StateStuck(given))
		}
		if what != isStuck {
			continue
		}
		next, steps := impl.StateStep(given)
		print, ends := impl.StateEnd(given)
		if steps || !isZero(next) || ends || print != "" || plugType(given) != "" {
			t.Fatalf("%s is stuck: StateStep %s, %v, StateEnd %s, %v, of the type %s", s.text(), stateText(next), steps, print, ends, plugType(given))
		}
	}
}

func TestPromise34Plugs(t *testing.T) {
	t.Parallel()
	for i, s := range someStates() {
		plug, ok := impl.StatePlug(s.state())
		want := s.plug()
		if ok != fitsLimits(want) || ok && plug != want.text() || !ok && plug != "" {
			t.Fatalf("StatePlug(%s) = %s, %v, want %s", s.text(), plug, ok, want.text())
		}
		if !ok || i%2 == 0 {
			continue
		}
		if impl.TermSort(plug) != "computation" || !impl.TermClosed(plug) || impl.TermHead(plug) != "put" {
			t.Fatalf("StatePlug(%s) = %s", s.text(), plug)
		}
		print0, bit0, _, ok0 := impl.Run(plug, 0, 3000)
		print1, bit1, _, ok1 := impl.Run(plug, 1, 3000)
		if print0 != print1 || bit0 != bit1 || ok0 != ok1 {
			t.Fatalf("Run(%s) = %s, %d, %v and %s, %d, %v", plug, print0, bit0, ok0, print1, bit1, ok1)
		}
	}
}

func TestPromise35PlugsBehindSteps(t *testing.T) {
	t.Parallel()
	compared := 0
	for _, s := range someStates() {
		given := s.state()
		next, ok := impl.StateStep(given)
		if !ok {
			continue
		}
		plug, _ := impl.StatePlug(given)
		behind, _ := impl.StatePlug(next)
		print0, bit0, _, ok0 := impl.Run(plug, 0, 3000)
		print1, bit1, _, ok1 := impl.Run(behind, 0, 3000)
		if !ok0 || !ok1 {
			continue
		}
		compared++
		if print0 != print1 || bit0 != bit1 {
			t.Fatalf("Run(%s) = %s, %d, and Run(%s) = %s, %d", plug, print0, bit0, behind, print1, bit1)
		}
	}
	if compared < 1000 {
		t.Errorf("just %d steps were compared", compared)
	}
}

func TestPromise36Runs(t *testing.T) {
	ended := 0
	for i, m := range closedComputations() {
		s, bit := m.text(), i%2
		end, steps, what := madeState{m, nil, bit}.run(1000)
		if what == goesOn {
			t.Fatalf("%s goes on with more than 1000 steps", s)
		}
		if what != isEnd {
			if print, b, n, ok := impl.Run(s, bit, impl.FuelMax); ok || print != "" || b != 0 || n != 0 {
				t.Fatalf("Run(%s, %d) = %s, %d, %d, %v, but it is at %s", s, bit, print, b, n, ok, what)
			}
			continue
		}
		ended++
		left := end.bit
		if end.comp.head == "fail" {
			left = 0
		}
		for _, fuel := range []int{steps, steps + 1, steps + 7, impl.FuelMax} {
			wantRun(t, s, bit, fuel, end.print(), left, steps)
		}
		if steps > 0 {
			wantTooLittle(t, s, bit, steps-1)
		}
		state, n, ok := impl.RunMany(s, bit, steps)
		print, _ := impl.StateEnd(state)
		if !ok || n != steps || print != end.print() {
			t.Fatalf("RunMany(%s, %d, %d) = %s, %d, %v", s, bit, steps, stateText(state), n, ok)
		}
	}
	if ended < 1000 {
		t.Errorf("just %d computations come to an end", ended)
	}
	for _, fuel := range []int{-1, math.MinInt, impl.FuelMax + 1, 1 << 32, math.MaxInt} {
		wantNoRun(t, "(return 0)", 0, fuel)
		wantNoRun(t, "(force 0)", 1, fuel)
	}
}

// wantRun wants what a run returns.
func wantRun(t *testing.T, s string, bit, fuel int, print string, left, steps int) {
	t.Helper()
	if p, b, n, ok := impl.Run(s, bit, fuel); !ok || p != print || b != left || n != steps {
		t.Errorf("Run(%s, %d, %d) = %s, %d, %d, %v, want %s, %d, %d", quoted(s), bit, fuel, p, b, n, ok, print, left, steps)
	}
}

// wantTooLittle wants that a fuel does not suffice.
func wantTooLittle(t *testing.T, s string, bit, fuel int) {
	t.Helper()
	if p, b, n, ok := impl.Run(s, bit, fuel); ok || p != "" || b != 0 || n != 0 {
		t.Errorf("Run(%s, %d, %d) = %s, %d, %d, %v", quoted(s), bit, fuel, p, b, n, ok)
	}
}

func TestPromise37WhatHasATypeIsNeverStuck(t *testing.T) {
	typed := 0
	for _, m := range closedComputations() {
		s := m.text()
		if !impl.TermTyped(s) {
			continue
		}
		typed++
		for bit := range 2 {
			for _, fuel := range []int{0, 1, 2, 3, 5, 9, 30, impl.FuelMax} {
				if impl.RunStuck(s, bit, fuel) {
					t.Fatalf("RunStuck(%s, %d, %d) = true", s, bit, fuel)
				}
			}
		}
	}
	if typed < 1000 {
		t.Errorf("just %d computations have a type", typed)
	}
}

func TestPromise38StuckRuns(t *testing.T) {
	stuck := 0
	for i, m := range closedComputations() {
		s, bit := m.text(), i%2
		_, steps, what := madeState{m, nil, bit}.run(1000)
		for _, fuel := range []int{0, steps - 1, steps, steps + 1, steps + 50, impl.FuelMax} {
			want := what == isStuck && fuel >= steps
			if impl.RunStuck(s, bit, fuel) != want {
				t.Fatalf("RunStuck(%s, %d, %d) = %v", s, bit, fuel, !want)
			}
			if _, _, _, ok := impl.Run(s, bit, fuel); want && ok {
				t.Fatalf("RunStuck(%s, %d, %d), but Run succeeds", s, bit, fuel)
			}
		}
		if what == isStuck {
			stuck++
			if impl.TermTyped(s) {
				t.Fatalf("%s has a type, but is stuck", s)
			}
		}
	}
	if stuck < 500 {
		t.Errorf("just %d computations are stuck", stuck)
	}
}

func TestPromise39ManySteps(t *testing.T) {
	t.Parallel()
	d := newTypedDice(5, 0)
	for i, m := range closedComputations() {
		s, bit := m.text(), i%2
		for _, n := range []int{0, 1, 2 + d.IntN(20), 499, 500} {
			want, steps, what := madeState{m, nil, bit}.run(n)
			state, many, ok := impl.RunMany(s, bit, n)
			if !ok || many != steps || !sameState(state, want.state()) || !impl.StateValid(state) {
				t.Fatalf("RunMany(%s, %d, %d) = %s, %d, %v, want %s, %d", s, bit, n, stateText(state), many, ok, want.text(), steps)
			}
			next, goes := impl.StateStep(state)
			if goes != (what == goesOn) || goes && many != n {
				t.Fatalf("RunMany(%s, %d, %d) = %s, %d, StateStep of it %v", s, bit, n, stateText(state), many, goes)
			}
			if further, _, ok := impl.RunMany(s, bit, n+1); n < 500 && goes && (!ok || !sameState(further, next)) {
				t.Fatalf("RunMany(%s, %d, %d) = %s, but StateStep of the one ahead %s", s, bit, n+1, stateText(further), stateText(next))
			}
		}
	}
	for _, n := range []int{-1, -500, 501, 502, 5000, 1 << 32, math.MinInt, math.MaxInt} {
		for _, s := range []string{"(return 0)", "(force 0)", "(get x (return x))"} {
			if state, many, ok := impl.RunMany(s, 0, n); ok || !isZero(state) || many != 0 {
				t.Errorf("RunMany(%s, 0, %d) = %s, %d, %v", s, n, stateText(state), many, ok)
			}
		}
	}
}

func TestPromise40EndsOfEachType(t *testing.T) {
	ends := map[string]int{}
	for i, m := range closedComputations() {
		s := m.text()
		typ, ok := impl.TermType(nil, nil, s)
		if !ok {
			continue
		}
		print, _, _, ok := impl.Run(s, i%2, impl.FuelMax)
		if !ok || print == "fail" {
			continue
		}
		ends[impl.TypeHead(typ)]++
		start := map[string]string{">": "lam", "&": "both", "f": "(return "}[impl.TypeHead(typ)]
		if !strings.HasPrefix(print, start) || start != "(return " && print != start {
			t.Fatalf("Run(%s) of the type %s = %s", s, typ, print)
		}
	}
	for _, head := range []string{">", "&", "f"} {
		if ends[head] < 50 {
			t.Errorf("just %d of %s come to an end", ends[head], head)
		}
	}
}
