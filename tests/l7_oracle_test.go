package tests

import (
	"regexp"
	"slices"
	"strconv"
	"strings"
	"sync"
	"testing"

	"loop.example/pushvalue/impl"
)

// A source expression is put together from its parts as a term is: as a madeTerm with one of these heads.

// formsOfSources tells the parts of each source expression with a head: e for expressions, x for a bound name and S for a source type.
var formsOfSources = []struct{ head, signs string }{
	{"lam", "xSe"}, {"app", "ee"}, {"if", "eee"}, {"pair", "ee"}, {"fst", "e"}, {"snd", "e"}, {"get", ""}, {"put", "e"}, {"fail", "S"},
}

// A madeSourceType is a source type with the texts of its parts, which are empty for b.
type madeSourceType struct {
	text, head, first, second string
}

// sourceTypes returns all source types that there are.
var sourceTypes = sync.OnceValue(func() []madeSourceType {
	byAtoms := make([][]madeSourceType, impl.AtomsMax+1)
	byAtoms[1] = []madeSourceType{{text: "b", head: "b"}}
	for n := 2; n <= impl.AtomsMax; n++ {
		for firstAtoms := 1; firstAtoms < n-1; firstAtoms++ {
			for _, first := range byAtoms[firstAtoms] {
				for _, second := range byAtoms[n-1-firstAtoms] {
					for _, head := range []string{"*", ">"} {
						byAtoms[n] = append(byAtoms[n], madeSourceType{inParentheses(head, first.text, second.text), head, first.text, second.text})
					}
				}
			}
		}
	}
	return slices.Concat(byAtoms...)
})

var sourceTypesByText = sync.OnceValue(func() map[string]madeSourceType {
	all := map[string]madeSourceType{}
	for _, w := range sourceTypes() {
		all[w.text] = w
	}
	return all
})

// valueTypeMade returns the value translation of a source type, which may have too many atoms.
func valueTypeMade(typ string) string {
	w := sourceTypesByText()[typ]
	if w.head == "b" {
		return "b"
	}
	template := map[string]string{"*": "(* A B)", ">": "(u (> A (f B)))"}[w.head]
	return strings.NewReplacer("A", valueTypeMade(w.first), "B", valueTypeMade(w.second)).Replace(template)
}

// sourceRules are the rules of source types as the document writes them: the types of the parts and that of the whole, with S and T for source types.
var sourceRules = map[string]struct {
	parts []string
	whole string
}{
	"lam":  {[]string{"T"}, "(> S T)"}, // S is in its text
	"app":  {[]string{"(> S T)", "S"}, "T"},
	"if":   {[]string{"b", "T", "T"}, "T"},
	"pair": {[]string{"S", "T"}, "(* S T)"},
	"fst":  {[]string{"(* S T)"}, "S"},
	"snd":  {[]string{"(* S T)"}, "T"},
	"get":  {nil, "b"},
	"put":  {[]string{"b"}, "b"},
	"fail": {nil, "T"}, // T is in its text
}

// sourceVars are the types for which the letters of a rule stand.
type sourceVars map[string]string

func (v sourceVars) match(rule, typ string) bool {
	if rule == "S" || rule == "T" {
		if v[rule] == "" {
			v[rule] = typ
		}
		return v[rule] == typ
	}
	words, w := strings.Fields(strings.Trim(rule, "()")), sourceTypesByText()[typ]
	if w.head != words[0] {
		return false
	}
	return len(words) == 1 || v.match(words[1], w.first) && v.match(words[2], w.second)
}

// sourceTypeIn returns the source type of an expression in an environment, or "" if it has none.
func sourceTypeIn(m *madeTerm, e madeEnv) string {
	switch m.shownHead() {
	case "name":
		return e.look(m.atom)
	case "bit":
		return "b"
	}
	rule, vars := sourceRules[m.head], sourceVars{}
	switch m.head {
	case "lam":
		vars["S"] = m.parts[1].typ
		e = e.with(m.parts[0].bound, m.parts[1].typ)
	case "fail":
		vars["T"] = m.parts[0].typ
	}
	for i, kid := range m.kidsMade() {
		if typ := sourceTypeIn(kid, e); typ == "" || !vars.match(rule.parts[i], typ) {
			return ""
		}
	}
	whole := strings.ReplaceAll(strings.ReplaceAll(rule.whole, "S", vars["S"]), "T", vars["T"])
	return sourceTypesByText()[whole].text
}

// kidsMade returns the parts that are terms or expressions themselves.
func (m *madeTerm) kidsMade() []*madeTerm {
	var kids []*madeTerm
	for _, p := range m.parts {
		if p.kid != nil {
			kids = append(kids, p.kid)
		}
	}
	return kids
}

// allWithin returns an expression and all that are within it.
func (m *madeTerm) allWithin() []*madeTerm {
	all := []*madeTerm{m}
	for _, kid := range m.kidsMade() {
		all = append(all, kid.allWithin()...)
	}
	return all
}

// A sourceEnd is what an expression comes to from a bit, and the fuel that it takes.
type sourceEnd struct {
	print     string
	bit, cost int
}

// suffices reports whether a fuel does.
func (e sourceEnd) suffices(fuel int) bool { return e.cost <= fuel && fuel <= impl.FuelMax }

// A sourceRun is an evaluation by value in which values are put for names.
type sourceRun struct {
	bit, cost int
	failed    bool
}

// value returns the value of an expression, or nil if it fails or takes more than all the fuel.
func (r *sourceRun) value(m *madeTerm) *madeTerm {
	r.cost++
	switch {
	case r.cost > impl.FuelMax:
		return nil
	case m.head == "given": // a value that is put for a name
		return m.last()
	case m.head == "get":
		return madeAtom(strconv.Itoa(r.bit))
	case m.head == "fail":
		r.failed = true
		return nil
	case m.head == "lam" || m.atom != "":
		return m
	case m.head == "if":
		chosen := r.value(m.first())
		if chosen == nil {
			return nil
		}
		return r.value(m.parts[map[string]int{"1": 1, "0": 2}[chosen.atom]].kid)
	}
	var values []*madeTerm
	for _, kid := range m.kidsMade() {
		v := r.value(kid)
		if v == nil {
			return nil
		}
		values = append(values, v)
	}
	return r.behind(m.head, values)
}

// behind returns the value behind those of all parts.
func (r *sourceRun) behind(head string, values []*madeTerm) *madeTerm {
	switch head {
	case "app":
		fun := values[0]
		return r.value(fun.last().replaced(fun.bound()[0], madeOf("given", values[1])))
	case "pair":
		return madeOf("pair", values[0], values[1])
	case "fst":
		return values[0].first()
	case "snd":
		return values[0].last()
	}
	r.bit = int(values[0].atom[0] - '0')
	return values[0]
}

// endFrom returns what an expression with a type and without free names comes to from a bit.
func endFrom(m *madeTerm, bit int) sourceEnd {
	r := sourceRun{bit: bit}
	v := r.value(m)
	switch {
	case r.failed:
		return sourceEnd{"fail", 0, r.cost}
	case v == nil:
		return sourceEnd{cost: r.cost}
	}
	return sourceEnd{printOfSource(v), r.bit, r.cost}
}

func printOfSource(v *madeTerm) string {
	switch v.head {
	case "pair":
		return inParentheses("pair", printOfSource(v.first()), printOfSource(v.last()))
	case "lam":
		return "thunk"
	}
	return v.atom
}

// A translator tells a translation of expressions as the document writes it: a template for each head, with its new names in order and T for a type in its text.
type translator struct {
	templates map[string]template
	// typ is the translation of types. What stands in lam and in fail has A for it.
	typ           func(string) string
	inLam, inFail string
}

type template struct{ names, form string }

var valueTranslator = translator{map[string]template{
	"name": {"", "(return V)"},
	"bit":  {"", "(return V)"},
	"lam":  {"", "(return (thunk (lam x T M)))"},
	"app":  {"v w", "(to M v (to N w (app (force v) w)))"},
	"if":   {"v", "(to M v (if v N P))"},
	"pair": {"v w", "(to M v (to N w (return (pair v w))))"},
	"fst":  {"v w y", "(to M v (split v w y (return w)))"},
	"snd":  {"v w y", "(to M v (split v w y (return y)))"},
	"get":  {"v", "(get v (return v))"},
	"put":  {"v", "(to M v (put v (return v)))"},
	"fail": {"", "(fail T)"},
}, valueTypeMade, "A", "(f A)"}

// A translation is one that is being made: how many of v0, v1 and so on are taken or left out, and all atoms of the expression.
type translation struct {
	translator
	next  int
	atoms []string
}

func (n *translation) take() string {
	for {
		name := "v" + strconv.Itoa(n.next)
		n.next++
		if !slices.Contains(n.atoms, name) {
			return name
		}
	}
}

func (n *translation) made(m *madeTerm) *madeTerm {
	how, letters := n.templates[m.shownHead()], standsFor{"V": m.atom}
	for _, letter := range strings.Fields(how.names) {
		letters[letter] = n.take()
	}
	switch m.head {
	case "lam":
		letters["x"], letters["T"] = m.parts[0].bound, strings.Replace(n.inLam, "A", n.typ(m.parts[1].typ), 1)
	case "fail":
		letters["T"] = strings.Replace(n.inFail, "A", n.typ(m.parts[0].typ), 1)
	}
	for i, kid := range m.kidsMade() {
		letters[[]string{"M", "N", "P"}[i]] = n.made(kid)
	}
	return madeFrom(how.form, letters)
}

// made returns the translation of an expression, which may be no term.
func (t translator) made(m *madeTerm) *madeTerm {
	return (&translation{translator: t, atoms: wordsOf(m.text())}).made(m)
}

// hasLargeType reports whether a type that stands in a translation has too many atoms.
func hasLargeType(m *madeTerm) bool {
	for _, within := range m.allWithin() {
		for _, p := range within.parts {
			if p.typ != "" && typesByText()[p.typ].text == "" {
				return true
			}
		}
	}
	return false
}

// isTerm reports whether a translation is a term.
func isTerm(m *madeTerm) bool { return fitsLimits(m) && !hasLargeType(m) }

// keepsSourceLimits reports whether a made expression is not too large to be one.
func keepsSourceLimits(m *madeTerm) bool {
	return m.atoms() <= impl.SourceMax && nesting(m.text()) <= 100
}

// smallSources returns all source expressions of few atoms with names of which one looks like a new one.
var smallSources = sync.OnceValue(func() []*madeTerm {
	all := [][]*madeTerm{nil, {madeAtom("0"), madeAtom("1"), madeAtom("x"), madeAtom("v0")}}
	for n := 1; n <= 5; n++ {
		if n >= len(all) {
			all = append(all, nil)
		}
		for _, form := range formsOfSources {
			made := []*madeTerm{{head: form.head}}
			for _, sign := range form.signs {
				made = extended(made, sourcePartsOf(sign, all), n)
			}
			for _, m := range made {
				if m.atoms() == n {
					all[n] = append(all[n], m)
				}
			}
		}
	}
	return slices.Concat(all...)
})

// sourcePartsOf returns all parts that a sign asks for.
func sourcePartsOf(sign rune, all [][]*madeTerm) []madePart {
	switch sign {
	case 'x':
		return []madePart{{bound: "x"}, {bound: "v0"}}
	case 'S':
		return []madePart{{typ: "b"}}
	}
	var parts []madePart
	for _, m := range slices.Concat(all...) {
		parts = append(parts, madePart{kid: m})
	}
	return parts
}

// A sourceDice makes source expressions at random, but the same ones each time.
type sourceDice struct {
	termDice
	// slips is how seldom a part of another type is made, one out of so many; never if it is 0.
	slips int
	// pure tells that there are no effects.
	pure bool
}

func newSourceDice(seed uint64, slips int) sourceDice {
	return sourceDice{termDice: newTermDice(1000 + seed), slips: slips}
}

func (d sourceDice) name() string {
	return d.one("x", "x", "y", "v0", "v0", "v1", "v2", "v4", "v00", "b", "f", "a123")
}

func (d sourceDice) typ() string {
	return d.one("b", "b", "b", "b", "(* b b)", "(* b b)", "(> b b)", "(> b b)", "(> (* b b) b)", "(> b (* b b))", "(> (> b b) b)", "(> b (> b b))", "(* (> b b) b)", "(* b (* b b))")
}

// expression returns an expression of a type in an environment, with parts within each other at most about so many times.
func (d sourceDice) expression(e madeEnv, typ string, depth int) *madeTerm {
	if d.slips > 0 && d.IntN(d.slips) == 0 {
		typ = d.typ()
	}
	var fitting []string
	for _, name := range e.names {
		if e.look(name) == typ {
			fitting = append(fitting, name)
		}
	}
	if len(fitting) > 0 && d.IntN(3) == 0 {
		return madeAtom(d.one(fitting...))
	}
	if depth <= 0 {
		return d.made(e, typ, depth)
	}
	other, deep := d.typ(), depth-1
	switch d.IntN(10) {
	case 0, 1:
		if fun := "(> " + other + " " + typ + ")"; sourceTypesByText()[fun].text != "" {
			return madeOf("app", d.expression(e, fun, deep), d.expression(e, other, deep))
		}
	case 2, 3:
		return madeOf("if", d.expression(e, "b", deep), d.expression(e, typ, deep), d.expression(e, typ, deep))
	case 4:
		if pair := "(* " + typ + " " + other + ")"; sourceTypesByText()[pair].text != "" {
			return madeOf("fst", d.expression(e, pair, deep))
		}
	case 5:
		if pair := "(* " + other + " " + typ + ")"; sourceTypesByText()[pair].text != "" {
			return madeOf("snd", d.expression(e, pair, deep))
		}
	case 6, 7:
		if typ == "b" && !d.pure {
			return madeOf("put", d.expression(e, "b", deep))
		}
	}
	return d.made(e, typ, depth)
}

// made returns an expression of a type with the form that belongs to the type, or a failure.
func (d sourceDice) made(e madeEnv, typ string, depth int) *madeTerm {
	if d.IntN(40) == 0 && !d.pure {
		return madeOf("fail", typ)
	}
	w := sourceTypesByText()[typ]
	switch w.head {
	case "*":
		return madeOf("pair", d.expression(e, w.first, depth-1), d.expression(e, w.second, depth-1))
	case ">":
		x := d.name()
		return madeOf("lam", ":"+x, w.first, d.expression(e.with(x, w.first), w.second, depth-1))
	}
	if d.IntN(2) == 0 && !d.pure {
		return madeOf("get")
	}
	return madeAtom(d.one("0", "1"))
}

// env returns an environment of so many names, some of which are equal.
func (d sourceDice) env(n int) madeEnv {
	var e madeEnv
	for range n {
		e = e.with(d.name(), d.typ())
	}
	return e
}

// someSources returns expressions of all kinds: small and large ones, with a type and without, with free names and without.
var someSources = sync.OnceValue(func() []*madeTerm {
	all := slices.Clone(smallSources())
	for seed, slips := range []int{0, 0, 100, 30, 8} {
		d := newSourceDice(uint64(seed), slips)
		d.pure = seed == 1
		for i := range 1500 {
			e := madeEnv{}
			if i%4 == 0 {
				e = d.env(3)
			}
			if m := d.expression(e, d.typ(), 2+i%5); keepsSourceLimits(m) {
				all = append(all, m)
			}
		}
	}
	return all
})

// A typedSource is a source expression without free names, with its type and what it comes to from both bits.
type typedSource struct {
	term      *madeTerm
	text, typ string
	ends      [2]sourceEnd
	pure      bool
}

func newTypedSource(m *madeTerm, typ string) typedSource {
	w := typedSource{m, m.text(), typ, [2]sourceEnd{endFrom(m, 0), endFrom(m, 1)}, true}
	for _, within := range m.allWithin() {
		w.pure = w.pure && !slices.Contains([]string{"get", "put", "fail"}, within.head)
	}
	return w
}

// typedSources returns source expressions without free names that have a type.
var typedSources = sync.OnceValue(func() []typedSource {
	var all []typedSource
	for _, m := range someSources() {
		if typ := sourceTypeIn(m, madeEnv{}); typ != "" {
			all = append(all, newTypedSource(m, typ))
		}
	}
	return all
})

// untypedSources returns the texts of source expressions without a type, with free names and without.
var untypedSources = sync.OnceValue(func() []string {
	var texts []string
	for _, m := range someSources() {
		if sourceTypeIn(m, madeEnv{}) == "" {
			texts = append(texts, m.text())
		}
	}
	return texts
})

// The forms of parts of which all parts are taken already, with one sign in the place of each: T for source types and E for expressions.
var (
	sourceTypeParts = sourcePattern(`[*>] T T`)
	sourceParts     = sourcePattern(`lam N T E|(?:app|pair) E E|if E E E|(?:fst|snd|put) E|get|fail T`)
	wholeSource     = regexp.MustCompile(`^(?:E|0|1|` + nameForm + `)$`)
)

func sourcePattern(forms string) *regexp.Regexp {
	return regexp.MustCompile(`\((?:` + strings.NewReplacer("N", nameForm, "T", typeForm, "E", `(?:E|0|1|`+nameForm+`)`).Replace(forms) + `)\)`)
}

// recognizedSource tells whether a text that keeps all limits of numbers is a source expression, by taking its innermost parts again and again.
func recognizedSource(s string) bool {
	if otherSigns.MatchString(s) {
		return false
	}
	for before := ""; s != before; {
		before = s
		s = sourceParts.ReplaceAllString(sourceTypeParts.ReplaceAllString(s, "T"), "E")
	}
	return wholeSource.MatchString(s)
}

func TestOracleMakesSourceTypes(t *testing.T) {
	var texts []string
	for _, w := range sourceTypes()[:11] {
		texts = append(texts, w.text)
	}
	want := "b (* b b) (> b b) (* b (* b b)) (> b (* b b)) (* b (> b b)) (> b (> b b)) (* (* b b) b) (> (* b b) b) (* (> b b) b) (> (> b b) b)"
	if got := strings.Join(texts, " "); got != want || len(sourceTypes()) != 1619 {
		t.Errorf("%d source types, the first ones %s, want %s", len(sourceTypes()), got, want)
	}
	for typ, want := range map[string]string{"b": "b", "(* b (* b b))": "(* b (* b b))", "(> b b)": "(u (> b (f b)))", "(* (> b b) b)": "(* (u (> b (f b))) b)", "(> (> b b) (* b b))": "(u (> (u (> b (f b))) (f (* b b))))"} {
		if got := valueTypeMade(typ); got != want {
			t.Errorf("valueTypeMade(%s) = %s, want %s", typ, got, want)
		}
	}
}

func TestOracleMakesSources(t *testing.T) {
	t.Parallel()
	var texts []string
	for _, m := range smallSources()[:26] {
		texts = append(texts, m.text())
	}
	want := "0 1 x v0 (get) (fst 0) (fst 1) (fst x) (fst v0) (fst (get)) (snd 0) (snd 1) (snd x) (snd v0) (snd (get)) (put 0) (put 1) (put x) (put v0) (put (get)) (fail b) (app 0 0) (app 0 1) (app 0 x) (app 0 v0) (app 0 (get))"
	if got := strings.Join(texts, " "); got != want {
		t.Errorf("the first expressions: %s, want %s", got, want)
	}
	for _, m := range someSources() {
		if !recognizedSource(m.text()) {
			t.Fatalf("%s is not recognized", m.text())
		}
	}
	heads, ends, pure, large, costs := map[string]int{}, map[string]int{}, 0, 0, 0
	for _, w := range typedSources() {
		for _, within := range w.term.allWithin() {
			heads[within.shownHead()]++
		}
		ends[w.ends[0].print]++
		if w.pure {
			pure++
		}
		if w.term.atoms() > 30 {
			large++
		}
		costs = max(costs, w.ends[0].cost)
	}
	t.Log(len(someSources()), len(typedSources()), len(untypedSources()), heads, ends, pure, large, costs)
	if len(heads) != len(formsOfSources)+2 || len(typedSources()) < 3000 || len(untypedSources()) < 3000 || pure < 1000 || large < 500 {
		t.Errorf("%d expressions with a type and %d without, %d without effects and %d large ones; heads %v", len(typedSources()), len(untypedSources()), pure, large, heads)
	}
	for _, print := range []string{"0", "1", "fail", "thunk", "(pair 0 1)", "(pair thunk 1)"} {
		if ends[print] < 20 {
			t.Errorf("just %d expressions come to %s", ends[print], print)
		}
	}
}
