package tests

import (
	"slices"
	"strings"
	"testing"

	"loop.example/pushvalue/impl"
)

// TestNumbersOfTheDocument holds the constants against its table, as other tests go by the constants.
func TestNumbersOfTheDocument(t *testing.T) {
	for _, w := range []struct {
		name      string
		got, want int
	}{
		{"TextMax", impl.TextMax, 12000}, {"AtomsMax", impl.AtomsMax, 12}, {"CountMax", impl.CountMax, 5000}, {"TermMax", impl.TermMax, 1500}, {"EnvMax", impl.EnvMax, 8}, {"FuelMax", impl.FuelMax, 5000}, {"StackMax", impl.StackMax, 300}, {"SourceMax", impl.SourceMax, 150},
	} {
		if w.got != w.want {
			t.Errorf("%s is %d, want %d", w.name, w.got, w.want)
		}
	}
}

// closedOfBytes returns a closed computation of so many bytes, which are about TextMax, with parentheses within each other at most 83 times.
func closedOfBytes(n int) string {
	return bothOfBytes(n, 77, func(nests int) string { return "(get a " + nested(nests, "0") + ")" })
}

// applied returns a function applied to itself, given its body with what goes on with it again: (app (force x) x).
func applied(body *madeTerm) *madeTerm {
	self := madeOf("thunk", madeOf("lam", ":x", "b", body))
	return madeOf("app", madeOf("force", self), self)
}

func again() *madeTerm { return madeOf("app", madeOf("force", madeAtom("x")), madeAtom("x")) }

// inside returns a computation with the same thing put around it so many times.
func inside(n int, around func(*madeTerm) *madeTerm, m *madeTerm) *madeTerm {
	for range n {
		m = around(m)
	}
	return m
}

func inTry(m *madeTerm) *madeTerm  { return madeOf("try", m, returned("0")) }
func inTo(m *madeTerm) *madeTerm   { return madeOf("to", m, ":y", returned("y")) }
func inFst(m *madeTerm) *madeTerm  { return madeOf("fst", m) }
func inSnd(m *madeTerm) *madeTerm  { return madeOf("snd", m) }
func inApp(m *madeTerm) *madeTerm  { return madeOf("app", m, madeAtom("1")) }
func inPut(m *madeTerm) *madeTerm  { return madeOf("put", madeAtom("1"), m) }
func inBoth(m *madeTerm) *madeTerm { return madeOf("both", m, m) }

// counted returns a computation that goes on with a list of so many bits 0, given what it does in each round with what it goes on with, and ends with 1.
func counted(n int, round func(*madeTerm) *madeTerm) *madeTerm {
	call := func(f *madeTerm, list *madeTerm) *madeTerm {
		return madeOf("app", madeOf("app", madeOf("force", f), f), list)
	}
	list := inside(n, func(m *madeTerm) *madeTerm { return madeOf("pair", madeAtom("0"), m) }, madeOf("pair", madeAtom("1"), madeAtom("0")))
	body := madeOf("if", madeAtom("c"), returned("1"), round(call(madeAtom("x"), madeAtom("l"))))
	return call(madeOf("thunk", madeOf("lam", ":x", "b", madeOf("lam", ":l", "b", madeOf("split", madeAtom("l"), ":c", ":l", body)))), list)
}

// doubled takes 16 * 2^n - 9 steps for a list of n bits.
func doubled(n int) *madeTerm {
	return counted(n, func(m *madeTerm) *madeTerm { return madeOf("to", m, ":y", m) })
}

// computationOfSteps returns a computation that takes just so many steps and returns 1.
func computationOfSteps(n int) *madeTerm {
	for list := 9; list >= 0; list-- {
		if steps := 16<<list - 9 + 2; n >= steps {
			return madeOf("to", doubled(list), ":y", computationOfSteps(n-steps))
		}
	}
	return inside(n, inPut, returned("1"))
}

func TestJustEnoughFuel(t *testing.T) {
	t.Parallel()
	for _, n := range []int{0, 1, 2, 8, 9, 10, 100, 499, 500, 501, 1000, 2999, 3000, 4999, impl.FuelMax} {
		m := computationOfSteps(n)
		end, steps, what := madeState{m, nil, 0}.run(impl.FuelMax + 1)
		if what != isEnd || steps != n {
			t.Fatalf("a computation of %d steps takes %d and is at %s", n, steps, what)
		}
		s := m.text()
		for _, fuel := range []int{n, n + 1, impl.FuelMax} {
			if fuel <= impl.FuelMax {
				wantRun(t, s, 0, fuel, "(return 1)", end.bit, n)
			}
		}
		if n > 0 {
			wantTooLittle(t, s, 0, n-1)
			wantTooLittle(t, s, 0, 0)
		}
		if impl.RunStuck(s, 0, impl.FuelMax) {
			t.Errorf("RunStuck of %d steps = true", n)
		}
		wantNoRun(t, s, 0, impl.FuelMax+1)
	}
	wantTooLittle(t, computationOfSteps(impl.FuelMax+1).text(), 0, impl.FuelMax)
	wantTooLittle(t, computationOfSteps(impl.FuelMax+2).text(), 1, impl.FuelMax)
}

// TestStuckWithJustEnoughFuel puts what is stuck behind many steps.
func TestStuckWithJustEnoughFuel(t *testing.T) {
	t.Parallel()
	for _, n := range []int{2, 500, 4998, impl.FuelMax, impl.FuelMax + 1} {
		s := madeOf("to", computationOfSteps(n-2), ":y", madeOf("force", madeAtom("y"))).text()
		for _, fuel := range []int{0, n - 1, n, n + 1, impl.FuelMax} {
			if fuel > impl.FuelMax {
				continue
			}
			if want := fuel >= n; impl.RunStuck(s, 1, fuel) != want {
				t.Errorf("RunStuck behind %d steps with %d = %v", n, fuel, !want)
			}
			wantTooLittle(t, s, 1, fuel)
		}
	}
}

func TestManyStepsAtTheirLimit(t *testing.T) {
	for _, n := range []int{0, 1, 498, 499, 500, 501, 502, 2000} {
		m := computationOfSteps(n)
		for _, most := range []int{0, 1, 499, 500} {
			want, steps, _ := madeState{m, nil, 1}.run(most)
			state, many, ok := impl.RunMany(m.text(), 1, most)
			if !ok || many != steps || many != min(n, most) || !sameState(state, want.state()) {
				t.Errorf("RunMany of %d steps, at most %d: %s, %d, %v, want %s", n, most, quoted(stateText(state)), many, ok, quoted(want.text()))
			}
			if _, ends := impl.StateEnd(state); ends != (n <= most) {
				t.Errorf("RunMany of %d steps, at most %d: StateEnd %v", n, most, ends)
			}
		}
		if state, many, ok := impl.RunMany(m.text(), 1, 501); ok || !isZero(state) || many != 0 {
			t.Errorf("RunMany of %d steps, at most 501: %d, %v", n, many, ok)
		}
	}
}

// TestComputationsThatRunOnAndOn runs what never ends, with frames that stay few.
func TestComputationsThatRunOnAndOn(t *testing.T) {
	for _, m := range []*madeTerm{
		applied(again()), inTry(applied(again())), inFst(applied(again())), applied(inPut(again())), applied(madeOf("get", ":y", madeOf("if", madeAtom("y"), madeOf("put", madeAtom("0"), again()), madeOf("put", madeAtom("1"), again())))),
		applied(madeOf("to", returned("0"), ":y", again())), applied(madeOf("try", madeOf("fail", "(f b)"), again())), applied(madeOf("fst", madeOf("both", again(), returned("0")))), applied(madeOf("split", madeOf("pair", madeAtom("x"), madeAtom("x")), ":y", ":z", madeOf("app", madeOf("force", madeAtom("y")), madeAtom("z")))),
		applied(madeOf("to", madeOf("return", madeAtom("x")), ":x", madeOf("app", madeOf("force", madeAtom("x")), madeAtom("x")))), applied(madeOf("try", madeOf("put", madeAtom("1"), madeOf("fail", "(> b (f b))")), madeOf("get", ":y", madeOf("if", madeAtom("y"), returned("0"), again())))),
	} {
		s := m.text()
		for bit := range 2 {
			want, steps, what := madeState{m, nil, bit}.run(500)
			if bit == 1 && what == isEnd {
				continue
			}
			state, many, ok := impl.RunMany(s, bit, 500)
			if steps != 500 || !ok || many != 500 || !sameState(state, want.state()) {
				t.Errorf("RunMany(%s, %d, 500) = %s, %d, %v, want %s, %d", s, bit, stateText(state), many, ok, want.text(), steps)
			}
			if _, ok := impl.StateStep(state); !ok || impl.StateStuck(state) || impl.RunStuck(s, bit, impl.FuelMax) || impl.TermTyped(s) {
				t.Errorf("%s from %d: StateStep %v, StateStuck %v, RunStuck %v", s, bit, ok, impl.StateStuck(state), impl.RunStuck(s, bit, impl.FuelMax))
			}
			wantTooLittle(t, s, bit, impl.FuelMax)
		}
	}
}

// wantNoneOfThree wants a valid state that is not at its end and not stuck, and yet without a step.
func wantNoneOfThree(t *testing.T, s impl.State) {
	t.Helper()
	next, steps := impl.StateStep(s)
	print, ends := impl.StateEnd(s)
	if !impl.StateValid(s) || steps || !isZero(next) || ends || print != "" || impl.StateStuck(s) {
		t.Errorf("%s with %d frames: StateValid %v, StateStep %v, StateEnd %v, StateStuck %v", quoted(s.Comp), len(s.Stack), impl.StateValid(s), steps, ends, impl.StateStuck(s))
	}
}

func TestStacksAtTheirLimit(t *testing.T) {
	for _, f := range []string{"fst", "(app 0)", "(to x (return x))", "(try (return 0) 1)", "(to a " + computationOfAtoms(50) + ")"} {
		full := slices.Repeat([]string{f}, impl.StackMax)
		for _, comp := range []string{"(to (return 0) x (return x))", "(app (return 0) 1)", "(fst (return 0))", "(snd (return 0))", "(try (return 0) (return 1))"} {
			wantNoneOfThree(t, impl.State{Comp: comp, Stack: full})
			fits := impl.State{Comp: comp, Stack: full[1:], Bit: 1}
			if next, ok := impl.StateStep(fits); !ok || len(next.Stack) != impl.StackMax || !slices.Equal(next.Stack[:impl.StackMax-1], full[1:]) || !impl.StateValid(next) {
				t.Errorf("StateStep(%s) in 299 times %s: %d frames, %v", comp, quoted(f), len(next.Stack), ok)
			}
		}
		// What takes a frame away, or leaves them as they are, goes on.
		for comp, frames := range map[string]int{"(force (thunk (return 0)))": impl.StackMax, "(get x (return x))": impl.StackMax, "(put 1 (return 1))": impl.StackMax, takerOf(f): impl.StackMax - 1} {
			if next, ok := impl.StateStep(impl.State{Comp: comp, Stack: full}); !ok || len(next.Stack) != frames {
				t.Errorf("StateStep(%s) in 300 times %s: %d frames, %v", comp, quoted(f), len(next.Stack), ok)
			}
		}
		wantInvalid(t, impl.State{Comp: "(return 0)", Stack: append(full, f)})
		wantInvalid(t, impl.State{Comp: "(fail (f b))", Stack: append(full, "(try (return 0) 0)")})
		if plug, ok := impl.StatePlug(impl.State{Comp: "(return 0)", Stack: full}); ok || plug != "" {
			t.Errorf("StatePlug in 300 times %s: %s, %v", quoted(f), quoted(plug), ok)
		}
	}
	tried := append([]string{"(try (return 1) 1)"}, slices.Repeat([]string{"fst"}, impl.StackMax-1)...)
	if next, ok := impl.StateStep(impl.State{Comp: "(fail (f b))", Stack: tried}); !ok || !sameState(next, impl.State{Comp: "(return 1)", Bit: 1}) {
		t.Errorf("StateStep of a failure with 299 frames within a try: %s, %v", stateText(next), ok)
	}
}

// takerOf returns a computation that takes a frame away.
func takerOf(f string) string {
	switch f[:2] {
	case "fs":
		return "(both (return 0) (return 1))"
	case "(a":
		return "(lam x b (return x))"
	}
	return "(return 1)"
}

// TestRunsWithStacksAtTheirLimit runs computations that need so many frames at most.
func TestRunsWithStacksAtTheirLimit(t *testing.T) {
	t.Parallel()
	for _, around := range []func(*madeTerm) *madeTerm{inTry, inTo} {
		for outer, fine := range map[int]bool{7: true, 8: true, 9: false, 10: false} {
			// 10 rounds with 29 frames each, the outer ones, and both of the last call
			m := inside(outer, around, counted(10, func(m *madeTerm) *madeTerm { return inside(29, around, m) }))
			s := m.text()
			last, steps, what := madeState{m, nil, 0}.run(impl.FuelMax)
			if (what == isEnd) != fine || !fine && (what != isLarge || len(last.frames) != impl.StackMax) {
				t.Fatalf("%d frames around: %d steps to %s with %d frames", outer, steps, what, len(last.frames))
			}
			state, many, ok := impl.RunMany(s, 0, 500)
			if impl.RunStuck(s, 0, impl.FuelMax) || !ok {
				t.Errorf("%d frames around: RunStuck %v, RunMany %v", outer, impl.RunStuck(s, 0, impl.FuelMax), ok)
			}
			if fine {
				wantRun(t, s, 0, steps, "(return 1)", 0, steps)
				wantTooLittle(t, s, 0, steps-1)
				continue
			}
			wantTooLittle(t, s, 0, impl.FuelMax)
			if many != steps || many >= 500 || !sameState(state, last.state()) {
				t.Errorf("%d frames around: RunMany goes %d steps to %d frames, want %d", outer, many, len(state.Stack), steps)
			}
			wantNoneOfThree(t, state)
		}
	}
	for _, around := range []func(*madeTerm) *madeTerm{inTry, inTo, inFst, inSnd, inApp} {
		m := applied(inside(40, around, again()))
		state, many, ok := impl.RunMany(m.text(), 1, 500)
		want, steps, _ := madeState{m, nil, 1}.run(500)
		if !ok || many != steps || len(state.Stack) != impl.StackMax || !sameState(state, want.state()) {
			t.Errorf("RunMany(%s) goes %d steps to %d frames, want %d", quoted(m.text()), many, len(state.Stack), steps)
		}
		wantNoneOfThree(t, state)
		wantTooLittle(t, m.text(), 1, impl.FuelMax)
	}
}

// wantLarge wants the state behind a step, if the computation there is said to be a term, and otherwise none.
func wantLarge(t *testing.T, s impl.State, comp string, fine bool) {
	t.Helper()
	if !fine {
		wantNoneOfThree(t, s)
		return
	}
	if next, ok := impl.StateStep(s); !ok || next.Comp != comp || impl.TermSort(comp) == "" {
		t.Errorf("StateStep(%s) = %s of %d bytes, %v, want %s of %d bytes", quoted(s.Comp), quoted(next.Comp), len(next.Comp), ok, quoted(comp), len(comp))
	}
}

// wantLargePut wants the steps that put a value for x in a body, by each kind of computation that puts one.
func wantLargePut(t *testing.T, body, value string, fine bool) {
	t.Helper()
	comp := strings.ReplaceAll(body, "x", value)
	wantLarge(t, impl.State{Comp: "(return " + value + ")", Stack: []string{"(to x " + body + ")"}}, comp, fine)
	wantLarge(t, impl.State{Comp: "(lam x b " + body + ")", Stack: []string{"fst", "(app " + value + ")"}, Bit: 1}, comp, fine)
	wantLarge(t, impl.State{Comp: "(split (pair " + value + " 0) x y " + body + ")", Stack: []string{"fst"}}, comp, fine)
	wantLarge(t, impl.State{Comp: "(split (pair 0 " + value + ") y x " + body + ")"}, comp, fine)
}

func TestStepsWhoseResultIsNoTerm(t *testing.T) {
	// too many atoms: (both (return (pair x x)) M) has 4 more than both values and M
	value := pairsOf(200, "1")
	wantLargePut(t, "(both (return (pair x x)) "+computationOfAtoms(impl.TermMax-3-2*399)+")", value, true)
	wantLargePut(t, "(both (return (pair x x)) "+computationOfAtoms(impl.TermMax-2-2*399)+")", value, false)
	wantLargePut(t, "(return "+pairsOf(600, "x")+")", "(pair 0 0)", false)
	wantLargePut(t, "(return "+pairsOf(375, "x")+")", "(pair 0 0)", true)
	wantLargePut(t, "(return "+pairsOf(376, "x")+")", "(pair 0 0)", false)
	wantLargePut(t, "(return "+pairsOf(300, "x")+")", pairsOf(200, "0"), false)
	wantLargePut(t, "(return "+pairsOf(700, "x")+")", "0", true)
	// too many bytes
	value = "(thunk (return (thunk (return (thunk (return 0))))))"
	around := len("(both (return (pair  )) )") + 2*len(value)
	wantLargePut(t, "(both (return (pair x x)) "+closedOfBytes(impl.TextMax-around)+")", value, true)
	wantLargePut(t, "(both (return (pair x x)) "+closedOfBytes(impl.TextMax-around+1)+")", value, false)
	// too many parentheses within each other
	wantLargePut(t, "(fst (fst (return x)))", nested(96, "0"), true)
	wantLargePut(t, "(fst (fst (fst (return x))))", nested(96, "0"), true)
	wantLargePut(t, "(fst (fst (fst (fst (return x)))))", nested(96, "0"), false)
	// A name that is bound is put away, and with it the value, so that the result is no larger.
	wantLargePut(t, "(return 0)", pairsOf(700, "0"), true)
	wantLarge(t, impl.State{Comp: computationOfAtoms(impl.TermMax), Stack: []string{"(to x (return 0))"}}, "(return 0)", true)
	// Both names of split together are too many.
	half := pairsOf(150, "0")
	for more, fine := range map[int]bool{299: true, 300: false} {
		body := "(both (return (pair (pair x x) (pair y y))) " + computationOfAtoms(more) + ")"
		wantLarge(t, impl.State{Comp: "(split (pair " + half + " " + half + ") x y " + body + ")"}, strings.NewReplacer("x", half, "y", half).Replace(body), fine)
	}
}

// TestRunsWhoseResultsGrow runs computations whose terms grow until they are no terms.
func TestRunsWhoseResultsGrow(t *testing.T) {
	doubling := madeOf("app", madeOf("app", madeOf("force", madeAtom("x")), madeAtom("x")), madeOf("pair", madeAtom("l"), madeAtom("l")))
	self := madeOf("thunk", madeOf("lam", ":x", "b", madeOf("lam", ":l", "b", doubling)))
	growing := madeOf("app", madeOf("app", madeOf("force", self), self), madeAtom("0"))
	deepening := applied(madeOf("to", madeOf("return", madeOf("thunk", again())), ":x", madeOf("to", returned("x"), ":y", madeOf("app", madeOf("force", madeAtom("y")), madeOf("thunk", madeOf("force", madeAtom("y")))))))
	for _, m := range []*madeTerm{growing, deepening, inTry(growing), inFst(growing)} {
		s := m.text()
		last, steps, what := madeState{m, nil, 1}.run(impl.FuelMax)
		state, many, ok := impl.RunMany(s, 1, 500)
		if steps < 500 && (!ok || many != steps || !sameState(state, last.state())) {
			t.Errorf("RunMany(%s) = %s, %d, %v, want %s, %d", s, quoted(stateText(state)), many, ok, quoted(last.text()), steps)
		}
		if m != deepening {
			if what != isLarge {
				t.Fatalf("%s is %s behind %d steps", s, what, steps)
			}
			wantNoneOfThree(t, state)
		}
		if impl.RunStuck(s, 1, impl.FuelMax) != (what == isStuck) {
			t.Errorf("RunStuck(%s) = %v", s, what != isStuck)
		}
		wantTooLittle(t, s, 1, impl.FuelMax)
	}
}

func TestPlugsThatAreNoTerms(t *testing.T) {
	at := func(comp string, stack ...string) impl.State { return impl.State{Comp: comp, Stack: stack} }
	for _, w := range []struct {
		s    impl.State
		fine bool
	}{
		// atoms: put and its bit, and what each frame has
		{at(computationOfAtoms(impl.TermMax - 2)), true}, {at(computationOfAtoms(impl.TermMax - 1)), false}, {at(computationOfAtoms(impl.TermMax)), false},
		{at(computationOfAtoms(impl.TermMax-3), "fst"), true}, {at(computationOfAtoms(impl.TermMax-2), "fst"), false}, {at(computationOfAtoms(impl.TermMax-3), "snd"), true}, {at(computationOfAtoms(impl.TermMax-2), "snd"), false},
		{at(computationOfAtoms(impl.TermMax-4), "(app 0)"), true}, {at(computationOfAtoms(impl.TermMax-3), "(app 0)"), false}, {at(computationOfAtoms(impl.TermMax-6), "(to x (return x))"), true}, {at(computationOfAtoms(impl.TermMax-5), "(to x (return x))"), false},
		{at(computationOfAtoms(impl.TermMax-7), "(try (return 0) 1)"), true}, {at(computationOfAtoms(impl.TermMax-6), "(try (return 0) 1)"), false}, {at(computationOfAtoms(700), "(to x "+computationOfAtoms(796)+")"), true}, {at(computationOfAtoms(700), "(to x "+computationOfAtoms(797)+")"), false},
		{at("(return 0)", "(try "+computationOfAtoms(impl.TermMax-7)+" 0)"), true}, {at("(return 0)", "(try "+computationOfAtoms(impl.TermMax-6)+" 0)"), false}, {at("(force 0)", slices.Repeat([]string{"(app " + pairsOf(375, "0") + ")"}, 2)...), false}, {at("(force 0)", slices.Repeat([]string{"(app " + pairsOf(375, "0") + ")"}, 300)...), false},
		// bytes
		{at(closedOfBytes(impl.TextMax - len("(put 0 )"))), true}, {at(closedOfBytes(impl.TextMax - len("(put 0 )") + 1)), false}, {at(closedOfBytes(impl.TextMax)), false},
		{at(closedOfBytes(impl.TextMax-len("(put 0 (fst ))")), "fst"), true}, {at(closedOfBytes(impl.TextMax-len("(put 0 (fst ))")+1), "fst"), false}, {at(closedOfBytes(impl.TextMax-len("(put 0 (try  (put 0 (return 0))))")), "(try (return 0) 0)"), true}, {at(closedOfBytes(impl.TextMax-len("(put 0 (try  (put 0 (return 0))))")+1), "(try (return 0) 0)"), false},
		{at("(return 0)", "(to x1 "+closedOfBytes(impl.TextMax-len("(put 0 (to (return 0) x1 ))"))+")"), true}, {at("(return 0)", "(to x1 "+closedOfBytes(impl.TextMax-len("(put 0 (to (return 0) x1 ))")+1)+")"), false},
		// parentheses: put, and one for each frame; the N of a try stands in one more
		{at(nested(99, "0")), true}, {at(nested(99, "0"), "fst"), false}, {at("(fst " + nested(99, "0") + ")"), false}, {at(nested(97, "0"), "fst"), true}, {at(nested(97, "0"), "fst", "(to x (return x))"), true}, {at(nested(97, "0"), "fst", "(app 0)", "(to x (return x))"), false},
		{at("(return 0)", "(to x "+nested(97, "0")+")"), true}, {at("(return 0)", "(to x (fst "+nested(97, "0")+"))"), true}, {at("(return 0)", "(to x (fst (fst "+nested(97, "0")+")))"), false}, {at("(return 0)", "(try "+nested(97, "0")+" 0)"), true}, {at("(return 0)", "(try (fst "+nested(97, "0")+") 0)"), false}, {at("(return 0)", "(app "+nested(98, "0")+")"), true}, {at("(return 0)", "fst", "(app "+nested(98, "0")+")"), false},
		{at("(return 0)", slices.Repeat([]string{"fst"}, 98)...), true}, {at("(return 0)", slices.Repeat([]string{"fst"}, 99)...), false}, {at("(return 0)", slices.Repeat([]string{"fst"}, 300)...), false},
	} {
		for bit := range 2 {
			w.s.Bit = bit
			plug, ok := impl.StatePlug(w.s)
			if !impl.StateValid(w.s) || ok != w.fine || ok != (plug != "") || ok && (impl.TermSort(plug) != "computation" || !strings.Contains(plug, w.s.Comp)) {
				t.Errorf("%s in %d frames: StateValid %v, StatePlug %s of %d bytes and %d atoms, %v", quoted(w.s.Comp), len(w.s.Stack), impl.StateValid(w.s), quoted(plug), len(plug), impl.TermSize(plug), ok)
			}
		}
	}
}

// TestTermsAtTheirLimitsInStates puts terms at and beyond the limits into states: it is the term in a frame that has to keep them.
func TestTermsAtTheirLimitsInStates(t *testing.T) {
	at, beyond := textsAtLimits(), textsBeyondLimits()
	at = append(at, closedOfBytes(impl.TextMax))
	beyond = append(beyond, closedOfBytes(impl.TextMax+1))
	for i, s := range slices.Concat(at, beyond) {
		fine, isValue := i < len(at), strings.HasPrefix(s, "(pair") || strings.HasPrefix(s, "(thunk")
		closed := fine && impl.TermClosed(s)
		for comp, want := range map[string]bool{s: closed && !isValue, "(force 0)": true} {
			if impl.StateValid(impl.State{Comp: comp, Stack: []string{"fst"}}) != want {
				t.Errorf("StateValid with text %d, %s: %v", i, quoted(comp), !want)
			}
		}
		free, _ := impl.TermFree(s)
		for frame, want := range map[string]bool{"(to x " + s + ")": fine && !isValue && !slices.ContainsFunc(free, func(name string) bool { return name != "x" }), "(app " + s + ")": closed && isValue, "(try " + s + " 0)": closed && !isValue, "(try " + s + " 1)": closed && !isValue} {
			if state := (impl.State{Comp: "(force 0)", Stack: []string{frame}}); impl.StateValid(state) != want || impl.StateStuck(state) != want {
				t.Errorf("StateValid with text %d in the frame %s: %v", i, quoted(frame), !want)
			}
		}
	}
}

func TestStatesAreNotChangedAndNotShared(t *testing.T) {
	backing := []string{"(try (return 1) 0)", "fst", "(to x (return x))", "(app 1)", "snd", "other", "words"}
	for n := range 6 {
		for _, comp := range []string{"(return 0)", "(lam x b (return x))", "(both (return 0) (return 1))", "(fail (f b))", "(fst (return 0))", "(to (return 0) y (return y))", "(force (thunk (return 1)))", "(try (return 0) (return 1))", "(force 0)"} {
			given := slices.Clone(backing)
			s := impl.State{Comp: comp, Stack: given[:n], Bit: 1}
			next, ok := impl.StateStep(s)
			impl.StateValid(s)
			impl.StateEnd(s)
			impl.StateStuck(s)
			impl.StatePlug(s)
			_ = append(next.Stack, "added")
			for i := range next.Stack {
				next.Stack[i] = "changed"
			}
			if !slices.Equal(given, backing) {
				t.Fatalf("StateStep(%s) with %d frames, %v: the argument is %q", comp, n, ok, given)
			}
			again, _ := impl.StateStep(s)
			if slices.Contains(again.Stack, "changed") {
				t.Fatalf("StateStep(%s) with %d frames: %q once more", comp, n, again.Stack)
			}
		}
	}
	many := "(fst (snd (app (try (fail (f b)) (return 0)) 1)))"
	for n := range 6 {
		first, _, _ := impl.RunMany(many, 0, n)
		second, _, _ := impl.RunMany(many, 0, n)
		want := slices.Clone(second.Stack)
		_ = append(first.Stack, "added", "added")
		for i := range first.Stack {
			first.Stack[i] = "changed"
		}
		if !slices.Equal(second.Stack, want) || slices.Contains(second.Stack, "changed") {
			t.Errorf("RunMany(%s, 0, %d): %q, want %q", many, n, second.Stack, want)
		}
	}
	// A stack that is nil and an empty one are the same.
	for _, comp := range []string{"(return 0)", "(get x (return x))", "(force 0)", "(fail (f b))", "(fst (return 0))"} {
		none, empty := impl.State{Comp: comp}, impl.State{Comp: comp, Stack: []string{}}
		one, oneOk := impl.StateStep(none)
		other, otherOk := impl.StateStep(empty)
		end, ends := impl.StateEnd(none)
		otherEnd, otherEnds := impl.StateEnd(empty)
		if oneOk != otherOk || !sameState(one, other) || end != otherEnd || ends != otherEnds || impl.StateStuck(none) != impl.StateStuck(empty) || !impl.StateValid(none) || !impl.StateValid(empty) {
			t.Errorf("%s without frames: %s, %v and %s, %v", comp, stateText(one), oneOk, stateText(other), otherOk)
		}
	}
}
