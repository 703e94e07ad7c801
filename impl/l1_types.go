package impl

import (
	"slices"
	"strings"
)

// TextMax is the greatest number of bytes of a term or a type.
const TextMax = 12000

// AtomsMax is the greatest number of atoms of a type.
const AtomsMax = 12

// CountMax is the greatest number of elements of a type that are counted.
const CountMax = 5000

// nestMax is how often parentheses may stand within each other.
const nestMax = 100

// countUnknown stands for a count that is not known. No number is an element below it.
const countUnknown = -1

const (
	kindValue       = "value"
	kindComputation = "computation"
)

// phrase is a text as it is written: an atom, or the parts in parentheses.
type phrase struct {
	atom  string
	parts []phrase
}

// readPhrase returns the phrase of a whole text, and true, or false if the text is not written as one.
func readPhrase(s string) (phrase, bool) {
	if len(s) > TextMax {
		return phrase{}, false
	}
	p, end, ok := phraseAt(s, 0, 0)
	return p, ok && end == len(s)
}

// phraseAt returns the phrase that begins at an index, inside of depth parentheses, and the index behind it.
func phraseAt(s string, at int, depth int) (phrase, int, bool) {
	if at < len(s) && s[at] == '(' {
		return listAt(s, at, depth)
	}
	end := at
	for end < len(s) && isAtomByte(s[end]) {
		end++
	}
	return phrase{atom: s[at:end]}, end, end > at
}

// listAt is phraseAt where a parenthesis opens.
func listAt(s string, at int, depth int) (phrase, int, bool) {
	if depth == nestMax {
		return phrase{}, 0, false
	}
	var list phrase
	for {
		part, end, ok := phraseAt(s, at+1, depth+1)
		if !ok || end == len(s) {
			return phrase{}, 0, false
		}
		list.parts = append(list.parts, part)
		switch s[end] {
		case ')':
			return list, end + 1, true
		case ' ':
			at = end
		default:
			return phrase{}, 0, false
		}
	}
}

func isAtomByte(c byte) bool {
	return 'a' <= c && c <= 'z' || '0' <= c && c <= '9' || c == '*' || c == '>' || c == '&'
}

// atoms returns how many atoms a phrase has.
func (p phrase) atoms() int {
	if len(p.parts) == 0 {
		return 1
	}
	n := 0
	for _, part := range p.parts {
		n += part.atoms()
	}
	return n
}

// typeNode is a type, with an implementation for each head.
type typeNode interface {
	head() string
	kind() string
	kids() []typeNode
	// countFrom returns the count, given the counts of the parts.
	// All of those are at most CountMax; where the count is not, it may be any greater number.
	countFrom(parts []int) int
}

type bitType struct{}

type pairType struct{ first, second typeNode }

type thunkType struct{ inside typeNode }

type returnType struct{ value typeNode }

type funType struct{ from, to typeNode }

type choiceType struct{ first, second typeNode }

func (bitType) head() string    { return "b" }
func (pairType) head() string   { return "*" }
func (thunkType) head() string  { return "u" }
func (returnType) head() string { return "f" }
func (funType) head() string    { return ">" }
func (choiceType) head() string { return "&" }

func (bitType) kind() string    { return kindValue }
func (pairType) kind() string   { return kindValue }
func (thunkType) kind() string  { return kindValue }
func (returnType) kind() string { return kindComputation }
func (funType) kind() string    { return kindComputation }
func (choiceType) kind() string { return kindComputation }

func (bitType) kids() []typeNode      { return nil }
func (t pairType) kids() []typeNode   { return []typeNode{t.first, t.second} }
func (t thunkType) kids() []typeNode  { return []typeNode{t.inside} }
func (t returnType) kids() []typeNode { return []typeNode{t.value} }
func (t funType) kids() []typeNode    { return []typeNode{t.from, t.to} }
func (t choiceType) kids() []typeNode { return []typeNode{t.first, t.second} }

func (bitType) countFrom([]int) int          { return 2 }
func (pairType) countFrom(parts []int) int   { return parts[0] * parts[1] }
func (thunkType) countFrom(parts []int) int  { return parts[0] }
func (returnType) countFrom(parts []int) int { return outcomes(parts[0]) * outcomes(parts[0]) }
func (funType) countFrom(parts []int) int    { return countPower(parts[1], parts[0]) }
func (choiceType) countFrom(parts []int) int { return parts[0] * parts[1] }

// outcomes returns how many outcomes there are for one state: a failure, or a state behind and one of so many elements.
func outcomes(elements int) int {
	return 2*elements + 1
}

// countPower returns a power, or some number beyond CountMax if the power is beyond it, so that it never overflows.
func countPower(base int, exponent int) int {
	n := 1
	for range exponent {
		n *= base
		if n > CountMax {
			return n
		}
	}
	return n
}

// readType returns the type that a text is, and true.
func readType(s string) (typeNode, bool) {
	p, ok := readPhrase(s)
	if !ok {
		return nil, false
	}
	return limitedType(p)
}

// limitedType returns the type that a phrase is, if it does not have too many atoms, and true.
func limitedType(p phrase) (typeNode, bool) {
	if p.atoms() > AtomsMax {
		return nil, false
	}
	return typeOfPhrase(p)
}

// typeOfPhrase returns the type that a phrase is, however many atoms it has, and true.
func typeOfPhrase(p phrase) (typeNode, bool) {
	if p.atom == "b" {
		return bitType{}, true
	}
	if len(p.parts) == 0 {
		return nil, false
	}
	var kids []typeNode
	for _, part := range p.parts[1:] {
		kid, ok := typeOfPhrase(part)
		if !ok {
			return nil, false
		}
		kids = append(kids, kid)
	}
	return typeOfParts(p.parts[0].atom, kids)
}

// typeOfParts returns the type with parts of a head and its parts, and true.
func typeOfParts(head string, kids []typeNode) (typeNode, bool) {
	form := head
	for _, kid := range kids {
		form += " " + kid.kind()
	}
	switch form {
	case "* value value":
		return pairType{kids[0], kids[1]}, true
	case "u computation":
		return thunkType{kids[0]}, true
	case "f value":
		return returnType{kids[0]}, true
	case "> value computation":
		return funType{kids[0], kids[1]}, true
	case "& computation computation":
		return choiceType{kids[0], kids[1]}, true
	}
	return nil, false
}

// typeText returns the text of a type.
func typeText(t typeNode) string {
	kids := t.kids()
	if len(kids) == 0 {
		return t.head()
	}
	return "(" + t.head() + " " + strings.Join(typeTexts(kids), " ") + ")"
}

// sameType reports whether two types are equal.
func sameType(a typeNode, b typeNode) bool {
	return typeText(a) == typeText(b)
}

func typeTexts(types []typeNode) []string {
	var texts []string
	for _, t := range types {
		texts = append(texts, typeText(t))
	}
	return texts
}

// typeCounts keeps the counts that were computed, by the texts of their types, as a type often stands in another one more than once.
type typeCounts map[string]int

// of returns the count of a type, or countUnknown.
func (c typeCounts) of(t typeNode) int {
	text := typeText(t)
	n, kept := c[text]
	if !kept {
		n = c.compute(t)
		c[text] = n
	}
	return n
}

func (c typeCounts) compute(t typeNode) int {
	parts, ok := c.ofParts(t)
	if !ok {
		return countUnknown
	}
	n := t.countFrom(parts)
	if n > CountMax {
		return countUnknown
	}
	return n
}

// ofParts returns the counts of the parts of a type, and true if all of them are known.
func (c typeCounts) ofParts(t typeNode) ([]int, bool) {
	var parts []int
	for _, kid := range t.kids() {
		n := c.of(kid)
		if n == countUnknown {
			return nil, false
		}
		parts = append(parts, n)
	}
	return parts, true
}

// countsAround returns the counts of the parts of a type that has one of the heads, a known count and an element k, and true.
func countsAround(s string, heads string, k int) ([]int, bool) {
	t, ok := readType(s)
	if !ok || !strings.Contains(heads, t.head()) {
		return nil, false
	}
	counts := typeCounts{}
	if !isElement(k, counts.of(t)) {
		return nil, false
	}
	return counts.ofParts(t)
}

// isElement reports whether a number is an element of a type with a count, which may be unknown.
func isElement(k int, count int) bool {
	return 0 <= k && k < count
}

// outcomeAt returns the outcome that an element of (f A) tells for a state, with so many elements of A.
func outcomeAt(k int, state int, elements int) int {
	if state == 1 {
		return k / outcomes(elements)
	}
	return k % outcomes(elements)
}

// returnedBy returns the state behind and the element that an outcome without a failure tells, with so many elements.
func returnedBy(outcome int, elements int) (int, int) {
	return (outcome - 1) / elements, (outcome - 1) % elements
}

// funAt returns the element for an element a, of a function to a type with so many elements.
func funAt(k int, a int, elements int) int {
	return k / countPower(elements, a) % elements
}

// funOf returns the function with a list of elements of a type with so many.
func funOf(list []int, elements int) int {
	k := 0
	for _, c := range slices.Backward(list) {
		k = k*elements + c
	}
	return k
}

// TypeKind returns value or computation for a type, and "" for other texts.
func TypeKind(s string) string {
	t, ok := readType(s)
	if !ok {
		return ""
	}
	return t.kind()
}

// TypeHead returns the first atom of a type, or "" if the text is none.
func TypeHead(s string) string {
	t, ok := readType(s)
	if !ok {
		return ""
	}
	return t.head()
}

// TypeKids returns the types that are parts of a type, in order, and true.
func TypeKids(s string) ([]string, bool) {
	t, ok := readType(s)
	if !ok {
		return nil, false
	}
	return typeTexts(t.kids()), true
}

// TypePlain reports whether a text is a type that is plain.
func TypePlain(s string) bool {
	_, ok := readType(s)
	return ok && !strings.ContainsAny(s, "u>&")
}

// TypeCount returns the count of a type if it is known, and otherwise -1.
func TypeCount(s string) int {
	t, ok := readType(s)
	if !ok {
		return countUnknown
	}
	return typeCounts{}.of(t)
}

// PairParts returns both elements of an element of a type (* A B) or (& C D), and true.
func PairParts(s string, k int) (int, int, bool) {
	counts, ok := countsAround(s, "*&", k)
	if !ok {
		return 0, 0, false
	}
	return k / counts[1], k % counts[1], true
}

// ReturnOutcome returns, for an element of a type (f A) and a state, whether it does not fail, the state behind and the element of A (both 0 if it fails), and true.
func ReturnOutcome(s string, k int, state int) (bool, int, int, bool) {
	counts, ok := countsAround(s, "f", k)
	if !ok || state != 0 && state != 1 {
		return false, 0, 0, false
	}
	outcome := outcomeAt(k, state, counts[0])
	if outcome == 0 {
		return false, 0, 0, true
	}
	behind, a := returnedBy(outcome, counts[0])
	return true, behind, a, true
}

// FunAt returns the element of C for an element of A, of an element of a type (> A C), and true.
func FunAt(s string, k int, a int) (int, bool) {
	counts, ok := countsAround(s, ">", k)
	if !ok || !isElement(a, counts[0]) {
		return 0, false
	}
	return funAt(k, a, counts[1]), true
}

// FunOf returns the element of a type (> A C) with a list of elements of C, for each element of A in order, and true.
func FunOf(s string, list []int) (int, bool) {
	// Each type has an element 0, so that this asks just for the type and its count.
	counts, ok := countsAround(s, ">", 0)
	if !ok || len(list) != counts[0] {
		return 0, false
	}
	for _, c := range list {
		if !isElement(c, counts[1]) {
			return 0, false
		}
	}
	return funOf(list, counts[1]), true
}

// TypeThunk returns (u C) for a computation type C, and true.
func TypeThunk(s string) (string, bool) {
	// Reading (u s) as a type tells both that s is a computation type and that there are not too many atoms.
	thunk := "(u " + s + ")"
	if _, ok := readType(thunk); !ok {
		return "", false
	}
	return thunk, true
}
