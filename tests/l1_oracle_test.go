package tests

import (
	"math"
	"strings"
	"testing"

	"loop.example/pushvalue/impl"
)

// A wellFormed is a text that the grammar of types makes, with what the document says of it,
// found from how it was made and not by reading it. It is a type if it has at most AtomsMax atoms.
type wellFormed struct {
	text, kind, head string
	atoms            int
	plain            bool
	count            int // -1 if it is not known
	kids             []wellFormed
}

// grammar holds all well-formed texts of each kind by their number of atoms.
type grammar struct {
	values, computations [][]wellFormed
}

// makeGrammar makes all well-formed texts of at most so many atoms.
func makeGrammar(most int) grammar {
	bit := wellFormed{text: "b", kind: "value", head: "b", atoms: 1, plain: true, count: 2}
	g := grammar{values: [][]wellFormed{nil, {bit}}, computations: [][]wellFormed{nil, nil}}
	for n := 2; n <= most; n++ {
		var values, computations []wellFormed
		for _, v := range g.values[n-1] {
			computations = append(computations, compose("f", v))
		}
		for _, c := range g.computations[n-1] {
			values = append(values, compose("u", c))
		}
		for i := 1; i < n-1; i++ {
			values = append(values, composeAll("*", g.values[i], g.values[n-1-i])...)
			computations = append(computations, composeAll(">", g.values[i], g.computations[n-1-i])...)
			computations = append(computations, composeAll("&", g.computations[i], g.computations[n-1-i])...)
		}
		g.values = append(g.values, values)
		g.computations = append(g.computations, computations)
	}
	return g
}

func composeAll(head string, firsts, seconds []wellFormed) []wellFormed {
	var all []wellFormed
	for _, a := range firsts {
		for _, b := range seconds {
			all = append(all, compose(head, a, b))
		}
	}
	return all
}

func compose(head string, kids ...wellFormed) wellFormed {
	w := wellFormed{head: head, kind: "computation", atoms: 1, plain: head == "*" || head == "f", kids: kids}
	if head == "*" || head == "u" {
		w.kind = "value"
	}
	texts := []string{head}
	for _, kid := range kids {
		texts = append(texts, kid.text)
		w.atoms += kid.atoms
		w.plain = w.plain && kid.plain
	}
	w.text = "(" + strings.Join(texts, " ") + ")"
	w.count = composedCount(head, kids)
	return w
}

func composedCount(head string, kids []wellFormed) int {
	first, last := float64(kids[0].count), float64(kids[len(kids)-1].count)
	if first < 0 || last < 0 {
		return -1
	}
	n := first * last
	switch head {
	case "u":
		n = first
	case "f":
		n = math.Pow(2*first+1, 2)
	case ">":
		n = math.Pow(last, first)
	}
	if n > impl.CountMax {
		return -1
	}
	return int(n)
}

// upTo returns all well-formed texts of at most so many atoms.
func (g grammar) upTo(most int) []wellFormed {
	var all []wellFormed
	for n := 1; n <= most; n++ {
		all = append(all, g.just(n)...)
	}
	return all
}

func (g grammar) just(n int) []wellFormed {
	return append(append([]wellFormed{}, g.values[n]...), g.computations[n]...)
}

// allTypes returns all types.
func allTypes() []wellFormed {
	return makeGrammar(impl.AtomsMax).upTo(impl.AtomsMax)
}

// countedTypes returns all types with a known count that have one of the heads, or of any head for "".
func countedTypes(heads string) []wellFormed {
	var some []wellFormed
	for _, w := range allTypes() {
		if w.count != -1 && (heads == "" || strings.Contains(heads, w.head)) {
			some = append(some, w)
		}
	}
	return some
}

// noTypes returns texts that are no types.
func noTypes() []string {
	texts := []string{
		"", " ", "(", ")", "()", "( )", "(())", "*", "u", "f", ">", "&", "x", "c", "0", "1", "bb", "b b", "b0", "b*", "B", "ab",
		"b ", " b", "b\n", "\tb", "b\x00", "\x00", "(b)", "((b))", "b)", "(b", "(b b)", "é", "\xff", "b\xff", "（f b）",
		"(*)", "(* b)", "(* b b b)", "(* (f b) b)", "(* b (f b))", "(u)", "(u b)", "(u (u (f b)))", "(u (f b) (f b))", "(u (* b b))",
		"(f)", "(f b b)", "(f (f b))", "(f (> b (f b)))", "(f (& (f b) (f b)))", "(> b)", "(> b b)", "(> (f b) b)", "(> (f b) (f b))", "(> b (f b) b)",
		"(& b b)", "(& (f b) b)", "(& b (f b))", "(& (f b))", "(& (f b) (f b) (f b))",
		"(+ b b)", "(F b)", "(ff b)", "(f* b)", "(*b b)", "(>b (f b))", "((f) b)", "((* b b) b)", "(b * b)", "(b f)", "(+ b (f b))", "(a b)",
		"( f b)", "(f b )", "(f  b)", "(f\tb)", "(f\nb)", "(f,b)", "(f b)\n", "(f b) ", " (f b)", "(f (* b b)", "(f (* b b)))", "f b", "f(b)", "(f)(b)", "(f b)(f b)",
		"(f b))", "((f b)", "(f b) (f b)", "(u(f b))", "(u (f b)", "u (f b))", "(& (f b)(f b))", "(f b\x00)", "(f b\xff)", "(f é)", "(f -b)", "[f b]",
	}
	for _, w := range makeGrammar(impl.AtomsMax + 1).just(impl.AtomsMax + 1) {
		texts = append(texts, w.text)
	}
	return append(texts, longTexts()...)
}

// longTexts returns texts at the limits of bytes and of parentheses within each other and beyond them. None is a type, as all have too many atoms or wrong ones.
func longTexts() []string {
	var texts []string
	for _, n := range []int{99, 100, 101, 102, 3000, 5999, 6000, 6001} {
		texts = append(texts,
			strings.Repeat("(", n)+"b"+strings.Repeat(")", n),
			strings.Repeat("(", n)+strings.Repeat(")", n),
			strings.Repeat("(u (f ", n/2)+"b"+strings.Repeat("))", n/2),
			strings.Repeat("(* b ", n)+"b"+strings.Repeat(")", n),
			strings.Repeat("(* ", n)+"b"+strings.Repeat(" b)", n))
	}
	for _, n := range []int{impl.TextMax - 1, impl.TextMax, impl.TextMax + 1, 1 << 22} {
		fill := strings.Repeat("b", n-len("(f )"))
		texts = append(texts,
			strings.Repeat("b", n), strings.Repeat(" ", n), strings.Repeat("(", n), strings.Repeat(")", n), strings.Repeat("(b)", n/3),
			"(f "+fill+")", "(f b"+fill[:len(fill)-2]+" )", "(f b)"+strings.Repeat(" ", n-len("(f b)")), strings.Repeat(" ", n-1)+"b", "b"+strings.Repeat("\x00", n-1))
	}
	return texts
}

// quoted returns a text for a message, cut if it is long.
func quoted(s string) string {
	if len(s) > 80 {
		return "\"" + s[:80] + "\"..."
	}
	return "\"" + s + "\""
}

func TestOracleMakesTheDocumentsTypes(t *testing.T) {
	g := makeGrammar(4)
	var texts []string
	for _, w := range g.upTo(4) {
		texts = append(texts, w.text)
	}
	want := "b (f b) (u (f b)) (* b b) (f (u (f b))) (f (* b b)) (> b (f b))"
	if got := strings.Join(texts, " "); got != want {
		t.Errorf("texts of at most 4 atoms: %s, want %s", got, want)
	}
}
