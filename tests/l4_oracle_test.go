package tests

import (
	"slices"
	"strconv"
	"strings"
	"sync"
	"testing"

	"loop.example/pushvalue/impl"
)

// A madeFrame is a frame that was put together from its parts.
type madeFrame struct {
	head string
	name string    // of to
	term *madeTerm // of to, app and try
	bit  int       // of try
}

func (f madeFrame) text() string {
	switch f.head {
	case "to":
		return "(to " + f.name + " " + f.term.text() + ")"
	case "app":
		return "(app " + f.term.text() + ")"
	case "try":
		return "(try " + f.term.text() + " " + strconv.Itoa(f.bit) + ")"
	}
	return f.head
}

// A madeState is a state that was put together from its parts, with the innermost frame last.
type madeState struct {
	comp   *madeTerm
	frames []madeFrame
	bit    int
}

func (s madeState) state() impl.State {
	var stack []string
	for _, f := range s.frames {
		stack = append(stack, f.text())
	}
	return impl.State{Comp: s.comp.text(), Stack: stack, Bit: s.bit}
}

func (s madeState) text() string { return stateText(s.state()) }

func stateText(s impl.State) string {
	return s.Comp + " in " + strings.Join(s.Stack, " ") + " with " + strconv.Itoa(s.Bit)
}

// What the document says of a state.
const (
	goesOn  = "goes on"
	isEnd   = "end"
	isStuck = "stuck"
	isLarge = "a step whose result is no state"
)

// The last part of a term, its first one, and the names that it binds.
func (m *madeTerm) last() *madeTerm  { return m.parts[len(m.parts)-1].kid }
func (m *madeTerm) first() *madeTerm { return m.parts[0].kid }
func (m *madeTerm) bound() []string {
	var names []string
	for _, p := range m.parts {
		if p.bound != "" {
			names = append(names, p.bound)
		}
	}
	return names
}

func (s madeState) innermost() string {
	if len(s.frames) == 0 {
		return ""
	}
	return s.frames[len(s.frames)-1].head
}

// without returns the state with a computation in the place of the frames from one on.
func (s madeState) without(from int, comp *madeTerm) madeState {
	return madeState{comp, s.frames[:from:from], s.bit}
}

func (s madeState) with(comp *madeTerm, f madeFrame) madeState {
	return madeState{comp, append(slices.Clone(s.frames), f), s.bit}
}

// step returns what the document says of a state, and the state behind the step if it goes on.
func (s madeState) step() (madeState, string) {
	next, what := s.ruled()
	if what != goesOn {
		return madeState{}, what
	}
	if len(next.frames) > impl.StackMax || !fitsLimits(next.comp) {
		return madeState{}, isLarge
	}
	return next, goesOn
}

// ruled is step without the limits.
func (s madeState) ruled() (madeState, string) {
	m, inner := s.comp, len(s.frames)-1
	switch m.head + " " + s.innermost() {
	case "return ", "lam ", "both ":
		return madeState{}, isEnd
	case "return to":
		return s.without(inner, s.frames[inner].term.replaced(s.frames[inner].name, m.last())), goesOn
	case "return try":
		return s.without(inner, m), goesOn
	case "lam app":
		return s.without(inner, m.last().replaced(m.bound()[0], s.frames[inner].term)), goesOn
	case "both fst":
		return s.without(inner, m.first()), goesOn
	case "both snd":
		return s.without(inner, m.last()), goesOn
	}
	switch m.head {
	case "to":
		return s.with(m.first(), madeFrame{head: "to", name: m.bound()[0], term: m.last()}), goesOn
	case "app":
		return s.with(m.first(), madeFrame{head: "app", term: m.last()}), goesOn
	case "fst", "snd":
		return s.with(m.first(), madeFrame{head: m.head}), goesOn
	case "try":
		return s.with(m.first(), madeFrame{head: "try", term: m.last(), bit: s.bit}), goesOn
	case "get":
		return s.without(inner+1, m.last().replaced(m.bound()[0], madeAtom(strconv.Itoa(s.bit)))), goesOn
	case "fail":
		return s.failed()
	}
	return s.ruledByValue()
}

// failed is ruled for a failure.
func (s madeState) failed() (madeState, string) {
	for i, f := range slices.Backward(s.frames) {
		if f.head == "try" {
			return madeState{f.term, s.frames[:i:i], f.bit}, goesOn
		}
	}
	return madeState{}, isEnd
}

// ruledByValue is ruled for the computations whose first part is a value.
func (s madeState) ruledByValue() (madeState, string) {
	m := s.comp
	if m.head == "return" || m.head == "lam" || m.head == "both" {
		return madeState{}, isStuck
	}
	next, value := s.without(len(s.frames), m.last()), m.first()
	switch m.head + " " + value.atom + value.head {
	case "force thunk":
		next.comp = value.last()
	case "if 1":
		next.comp = m.parts[1].kid
	case "if 0", "put 0", "put 1":
		if m.head == "put" {
			next.bit = int(value.atom[0] - '0')
		}
	case "split pair":
		names := m.bound()
		next.comp = m.last().replaced(names[0], value.first()).replaced(names[1], value.last())
	default:
		return madeState{}, isStuck
	}
	return next, goesOn
}

// fitsLimits reports whether a made term keeps all limits of terms.
func fitsLimits(m *madeTerm) bool { return keepsLimits(m) && nesting(m.text()) <= 100 }

// nesting returns how often parentheses stand within each other.
func nesting(s string) int {
	depth, most := 0, 0
	for _, c := range s {
		switch c {
		case '(':
			depth++
		case ')':
			depth--
		}
		most = max(most, depth)
	}
	return most
}

// plug returns the computation that a state means, which may be too large.
func (s madeState) plug() *madeTerm {
	m := s.comp
	for _, f := range slices.Backward(s.frames) {
		switch f.head {
		case "to":
			m = madeOf("to", m, ":"+f.name, f.term)
		case "app":
			m = madeOf("app", m, f.term)
		case "try":
			m = madeOf("try", m, putMade(f.bit, f.term))
		default:
			m = madeOf(f.head, m)
		}
	}
	return putMade(s.bit, m)
}

func putMade(bit int, m *madeTerm) *madeTerm {
	return madeOf("put", madeAtom(strconv.Itoa(bit)), m)
}

// run returns the last state that is reached with at most so many steps, how many they were, and what the document says of it.
func (s madeState) run(most int) (madeState, int, string) {
	for steps := 0; ; steps++ {
		next, what := s.step()
		if what != goesOn || steps == most {
			return s, steps, what
		}
		s = next
	}
}

// print returns the print of an end.
func (s madeState) print() string {
	if s.comp.head == "return" {
		return "(return " + s.comp.last().print() + ")"
	}
	return s.comp.head
}

func (m *madeTerm) print() string {
	switch m.head {
	case "pair":
		return "(pair " + m.first().print() + " " + m.last().print() + ")"
	case "thunk":
		return "thunk"
	}
	return m.atom
}

// hasOpen reports whether a made term has other free names than one.
func (m *madeTerm) hasOpen(name string) bool {
	return slices.ContainsFunc(m.uses(), func(free string) bool { return free != name })
}

// closedComputations returns closed computations, with a type and without.
var closedComputations = sync.OnceValue(func() []*madeTerm {
	return slices.DeleteFunc(someClosedTerms(), func(m *madeTerm) bool { return m.sort() == "value" || !fitsLimits(m) })
})

// stack returns frames for a computation of a type, so many and the innermost one last, and the type behind all of them.
// With slips, frames that do not fit stand among them.
func (d typedDice) stack(typ string, n int) ([]madeFrame, string) {
	var outwards []madeFrame
	for range n {
		if d.slip() {
			typ = d.computationType()
		}
		var f madeFrame
		f, typ = d.frame(typ)
		outwards = append(outwards, f)
	}
	slices.Reverse(outwards)
	return outwards, typ
}

// frame returns a frame for a computation of a type, and the type behind it.
func (d typedDice) frame(typ string) (madeFrame, string) {
	kids := typesByText()[typ].kids
	switch typesByText()[typ].head {
	case ">":
		return madeFrame{head: "app", term: d.value(madeEnv{}, kids[0].text, 2)}, kids[1].text
	case "&":
		if d.IntN(2) == 0 {
			return madeFrame{head: "fst"}, kids[0].text
		}
		return madeFrame{head: "snd"}, kids[1].text
	}
	if d.IntN(2) == 0 {
		return madeFrame{head: "try", term: d.computation(madeEnv{}, typ, 2), bit: d.IntN(2)}, typ
	}
	name, behind := d.name(), d.computationType()
	return madeFrame{head: "to", name: name, term: d.computation(madeEnv{}.with(name, kids[0].text), behind, 2)}, behind
}

// stateOf returns a state with so many frames.
func (d typedDice) stateOf(frames int) madeState {
	typ := d.computationType()
	comp := d.computation(madeEnv{}, typ, 3)
	stack, _ := d.stack(typ, frames)
	return madeState{comp, stack, d.IntN(2)}
}

// someStates returns states of all kinds: those to which computations come, and such with frames that they may not fit.
var someStates = sync.OnceValue(func() []madeState {
	var all []madeState
	for i, m := range closedComputations() {
		s := madeState{m, nil, i % 2}
		for range 25 {
			all = append(all, s)
			next, what := s.step()
			if what != goesOn {
				break
			}
			s = next
		}
	}
	for seed, slips := range []int{0, 0, 20, 4} {
		d := newTypedDice(uint64(100+seed), slips)
		for i := range 500 {
			all = append(all, d.stateOf(i%7))
		}
	}
	all = append(all, pairedStates()...)
	return slices.DeleteFunc(all, func(s madeState) bool { return !s.isValid() })
})

func (s madeState) isValid() bool {
	fits := fitsLimits(s.comp) && len(s.comp.uses()) == 0
	for _, f := range s.frames {
		fits = fits && (f.term == nil || fitsLimits(f.term) && !f.term.hasOpen(f.name))
	}
	return fits && len(s.frames) <= impl.StackMax
}

// pairedStates returns states with each kind of computation in each kind of frame, and in two of them.
func pairedStates() []madeState {
	value, frames := madeOf("pair", madeAtom("0"), madeOf("thunk", returned("1"))), simpleFrames()
	var all []madeState
	for _, form := range formsOfTerms {
		if form.head == "pair" || form.head == "thunk" {
			continue
		}
		for _, v := range []*madeTerm{madeAtom("0"), madeAtom("1"), value, madeOf("thunk", returned("0"))} {
			comp := simplestMade(form.head, form.signs, v)
			all = append(all, madeState{comp, nil, 0}, madeState{comp, nil, 1})
			for _, outer := range frames {
				all = append(all, madeState{comp, []madeFrame{outer}, 1})
				for _, inner := range frames {
					all = append(all, madeState{comp, []madeFrame{outer, inner}, 0})
				}
			}
		}
	}
	return all
}

func returned(atom string) *madeTerm { return madeOf("return", madeAtom(atom)) }

// simpleFrames returns a frame of each kind.
func simpleFrames() []madeFrame {
	return []madeFrame{
		{head: "to", name: "x", term: madeOf("return", madeOf("pair", madeAtom("x"), madeAtom("x")))},
		{head: "app", term: madeOf("thunk", returned("1"))},
		{head: "fst"}, {head: "snd"},
		{head: "try", term: returned("0"), bit: 0}, {head: "try", term: madeOf("get", ":y", returned("y")), bit: 1},
	}
}

// simplestMade returns a closed term with a head, with a value wherever one may stand.
func simplestMade(head, signs string, value *madeTerm) *madeTerm {
	var parts []any
	for i, sign := range signs {
		part := map[rune]any{'V': value, 'M': madeOf("return", value), 'x': ":" + []string{"x", "y", "z"}[i%3], 'A': "b", 'C': "(f b)"}[sign]
		parts = append(parts, part)
	}
	if i := strings.Index(signs, "x"); i >= 0 {
		bound := strings.TrimPrefix(parts[i].(string), ":")
		parts[len(parts)-1] = madeOf("return", madeOf("pair", madeAtom(bound), value))
	}
	return madeOf(head, parts...)
}

func TestOracleCoversAllSteps(t *testing.T) {
	t.Parallel()
	steps, ends, typed := map[string]int{}, map[string]int{}, 0
	for _, s := range someStates() {
		next, what := s.step()
		head := s.comp.head
		if what == goesOn && len(next.frames) < len(s.frames) {
			head += " " + s.innermost()
		}
		ends[what]++
		steps[what+": "+head]++
		if typedPlug(s) != "" {
			typed++
		}
	}
	t.Log(len(someStates()), typed, ends, steps)
	for _, want := range strings.Split("to|app|fst|snd|try|force|if|split|get|put|return to|return try|lam app|both fst|both snd|fail to|fail app|fail fst|fail snd|fail try", "|") {
		if steps[goesOn+": "+want] < 10 {
			t.Errorf("%d states take the step of %s", steps[goesOn+": "+want], want)
		}
	}
	for _, want := range []string{"end: return", "end: lam", "end: both", "end: fail", "stuck: return", "stuck: lam", "stuck: both", "stuck: force", "stuck: if", "stuck: split", "stuck: put"} {
		if steps[want] < 10 {
			t.Errorf("%d states are at the %s", steps[want], want)
		}
	}
	if typed < 2000 {
		t.Errorf("just %d states mean a computation with a type", typed)
	}
}

// typedPlug returns the type of what a state means, or "".
func typedPlug(s madeState) string { return standing{s.plug(), madeEnv{}}.typ() }
