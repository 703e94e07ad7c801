package tests

import (
	"slices"
	"strconv"
	"strings"
	"sync"
	"testing"

	"loop.example/pushvalue/impl"
)

// nameTypeMade returns the name translation of a source type, which may have too many atoms.
func nameTypeMade(typ string) string {
	w := sourceTypesByText()[typ]
	if w.head == "b" {
		return "(f b)"
	}
	form := map[string]string{"*": "(& A B)", ">": "(> (u A) B)"}[w.head]
	return strings.NewReplacer("A", nameTypeMade(w.first), "B", nameTypeMade(w.second)).Replace(form)
}

var nameTranslator = translator{map[string]template{
	"name": {"", "(force V)"},
	"bit":  {"", "(return V)"},
	"lam":  {"", "(lam x T M)"},
	"app":  {"", "(app M (thunk N))"},
	"if":   {"v", "(to M v (if v N P))"},
	"pair": {"", "(both M N)"},
	"fst":  {"", "(fst M)"},
	"snd":  {"", "(snd M)"},
	"get":  {"v", "(get v (return v))"},
	"put":  {"v", "(to M v (put v (return v)))"},
	"fail": {"", "(fail T)"},
}, nameTypeMade, "(u A)", "A"}

// A nameRun is an evaluation by name in which marks are put for names, #0, #1 and so on: each one stands for the argument of this number.
type nameRun struct {
	bit, cost int
	failed    bool
	arguments []*madeTerm
}

// value returns what an expression comes to, or nil if it fails or takes more than all the fuel.
func (r *nameRun) value(m *madeTerm) *madeTerm {
	r.cost++
	switch {
	case r.cost > impl.FuelMax:
		return nil
	case strings.HasPrefix(m.atom, "#"):
		return r.value(r.arguments[number(m.atom)])
	case m.atom != "" || m.head == "lam" || m.head == "pair":
		return m
	case m.head == "get":
		return madeAtom(strconv.Itoa(r.bit))
	case m.head == "fail":
		r.failed = true
		return nil
	}
	first := r.value(m.first())
	if first == nil {
		return nil
	}
	switch m.head {
	case "app":
		mark := madeAtom("#" + strconv.Itoa(len(r.arguments)))
		r.arguments = append(r.arguments, m.last())
		return r.value(first.last().replaced(first.bound()[0], mark))
	case "if":
		return r.value(m.parts[map[string]int{"1": 1, "0": 2}[first.atom]].kid)
	case "fst":
		return r.value(first.first())
	case "snd":
		return r.value(first.last())
	}
	r.bit = int(first.atom[0] - '0')
	return first
}

// nameEndFrom returns what an expression with a type and without free names comes to by name from a bit.
func nameEndFrom(m *madeTerm, bit int) sourceEnd {
	r := nameRun{bit: bit}
	v := r.value(m)
	switch {
	case r.failed:
		return sourceEnd{"fail", 0, r.cost}
	case v == nil:
		return sourceEnd{cost: r.cost}
	case v.head == "lam":
		return sourceEnd{"lam", r.bit, r.cost}
	case v.head == "pair":
		return sourceEnd{"both", r.bit, r.cost}
	}
	return sourceEnd{"(return " + v.atom + ")", r.bit, r.cost}
}

// A namedSource is a source expression without free names, with what it comes to by value and by name from both bits.
type namedSource struct {
	typedSource
	named [2]sourceEnd
}

func newNamedSource(w typedSource) namedSource {
	return namedSource{w, [2]sourceEnd{nameEndFrom(w.term, 0), nameEndFrom(w.term, 1)}}
}

// agrees tells whether both evaluations come from a bit to the same bit, or both to a failure, with the same state behind.
func (w namedSource) agrees(bit int) bool {
	value, name := w.ends[bit], w.named[bit]
	if w.typ != "b" || max(value.cost, name.cost) > impl.FuelMax {
		return false
	}
	return value.bit == name.bit && name.print == map[string]string{"0": "(return 0)", "1": "(return 1)", "fail": "fail"}[value.print]
}

// applied returns an expression of b with some functions that are applied around it: each one binds a name, for an argument with names of those around it.
func (d sourceDice) applied(functions, depth int) *madeTerm {
	var e madeEnv
	var arguments []*madeTerm
	for range functions {
		typ := d.one("b", "b", "b", "(* b b)", "(> b b)")
		arguments = append(arguments, d.argument(e, typ))
		e = e.with(d.name(), typ)
	}
	m := madeOf("if", d.using(e, depth), d.using(e, depth), d.using(e, depth))
	for i, argument := range slices.Backward(arguments) {
		m = madeOf("app", madeOf("lam", ":"+e.names[i], e.types[i], m), argument)
	}
	return m
}

// using returns an expression of b that often is a use of a name.
func (d sourceDice) using(e madeEnv, depth int) *madeTerm {
	name := d.one(e.names...)
	if d.IntN(2) == 0 {
		return d.expression(e, "b", depth)
	}
	switch e.look(name) {
	case "(* b b)":
		return madeOf(d.one("fst", "snd"), madeAtom(name))
	case "(> b b)":
		return madeOf("app", madeAtom(name), d.argument(e, "b"))
	}
	return madeAtom(name)
}

// argument returns an expression of a type, often with effects that are others from each bit.
func (d sourceDice) argument(e madeEnv, typ string) *madeTerm {
	m := d.expression(e, typ, 2)
	if d.pure {
		return m
	}
	switch d.IntN(5) {
	case 0:
		return madeOf("if", madeOf("get"), madeOf("fail", typ), m)
	case 1:
		return madeOf("if", madeOf("put", madeOf("if", madeOf("get"), madeAtom("0"), madeAtom("1"))), m, d.expression(e, typ, 2))
	case 2:
		return madeOf("if", madeOf("put", d.expression(e, "b", 1)), m, d.expression(e, typ, 1))
	}
	return m
}

// plain returns an expression of bits or pairs of bits without functions.
func (d sourceDice) plain(typ string, depth int) *madeTerm {
	if typ == "(* b b)" {
		switch d.IntN(8) {
		case 0:
			return d.choosing(typ, depth)
		case 1:
			return d.made(madeEnv{}, typ, 0)
		}
		return madeOf("pair", d.plain("b", depth-1), d.plain("b", depth-1))
	}
	if depth <= 0 {
		return d.made(madeEnv{}, typ, 0)
	}
	switch d.IntN(8) {
	case 0, 1:
		return madeOf("fst", d.plain("(* b b)", depth-1))
	case 2, 3:
		return madeOf("snd", d.plain("(* b b)", depth-1))
	case 4, 5:
		if !d.pure {
			return madeOf("put", d.plain("b", depth-1))
		}
	case 6:
		return d.made(madeEnv{}, typ, 0)
	}
	return d.choosing(typ, depth)
}

func (d sourceDice) choosing(typ string, depth int) *madeTerm {
	return madeOf("if", d.plain("b", depth-1), d.plain(typ, depth-1), d.plain(typ, depth-1))
}

// namedSources returns source expressions with a type: those of chapter 7, some in which functions are applied at once, and some without functions.
var namedSources = sync.OnceValue(func() []namedSource {
	var all []namedSource
	for _, w := range typedSources() {
		all = append(all, newNamedSource(w))
	}
	for seed := range 2 {
		d := newSourceDice(uint64(10+seed), 0)
		d.pure = seed == 1
		for i := range 1000 {
			for _, m := range []*madeTerm{d.applied(1+i%3, 1+i%4), d.plain("b", i%6)} {
				if keepsSourceLimits(m) {
					all = append(all, newNamedSource(newTypedSource(m, "b")))
				}
			}
		}
	}
	return all
})

func TestOracleTranslatesByName(t *testing.T) {
	for typ, want := range map[string]string{"b": "(f b)", "(* b (* b b))": "(& (f b) (& (f b) (f b)))", "(> b b)": "(> (u (f b)) (f b))", "(* (> b b) b)": "(& (> (u (f b)) (f b)) (f b))", "(> (> b b) (* b b))": "(> (u (> (u (f b)) (f b))) (& (f b) (f b)))"} {
		if got := nameTypeMade(typ); got != want {
			t.Errorf("nameTypeMade(%s) = %s, want %s", typ, got, want)
		}
	}
}

func TestOracleEvaluatesByName(t *testing.T) {
	t.Parallel()
	ends, unlike, unused, again, costs := map[string]int{}, map[string]int{}, 0, 0, 0
	for _, w := range namedSources() {
		if typ := sourceTypeIn(w.term, madeEnv{}); typ != w.typ {
			t.Fatalf("%s has the type %s, not %s", w.text, typ, w.typ)
		}
		for bit := range 2 {
			value, name := w.ends[bit], w.named[bit]
			ends[name.print]++
			costs = max(costs, name.cost)
			switch {
			case w.agrees(bit) || w.typ != "b" || max(value.cost, name.cost) > impl.FuelMax:
			case value.print == "fail":
				unlike["failure by value"]++
			case name.print == "fail":
				unlike["failure by name"]++
			case !strings.Contains(name.print, value.print):
				unlike["bit"]++
			default:
				unlike["state"]++
			}
		}
		for _, within := range w.term.allWithin() {
			if within.head != "app" || within.first().head != "lam" || within.last().pure() {
				continue
			}
			uses := within.first().last().uses()
			uses = slices.DeleteFunc(uses, func(name string) bool { return name != within.first().bound()[0] })
			switch {
			case len(uses) == 0:
				unused++
			case len(uses) > 1:
				again++
			}
		}
	}
	t.Log(len(namedSources()), ends, unlike, unused, again, costs)
	for _, print := range []string{"(return 0)", "(return 1)", "lam", "both", "fail"} {
		if ends[print] < 500 {
			t.Errorf("just %d evaluations end with %s", ends[print], print)
		}
	}
	for _, difference := range []string{"bit", "state", "failure by value", "failure by name"} {
		if unlike[difference] < 40 {
			t.Errorf("just %d evaluations differ in the %s", unlike[difference], difference)
		}
	}
	if unused < 1000 || again < 500 {
		t.Errorf("just %d arguments with effects are not used, and %d more than once", unused, again)
	}
}
