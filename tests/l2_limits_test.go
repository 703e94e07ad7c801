package tests

import (
	"slices"
	"strconv"
	"strings"
	"testing"

	"loop.example/pushvalue/impl"
)

const (
	valueTypeOf12       = "(* b (* b (* b (u (& (f b) (f b))))))"
	valueTypeOf13       = "(* b (* b (* b (* b (* b (* b b))))))"
	computationTypeOf12 = "(> b (f (* b (* b (* b (* b b))))))"
	computationTypeOf13 = "(& (f b) (f (* b (* b (* b (* b b))))))"
)

// textsBeyondLimits returns texts that are no terms as one number of them is greater by 1 than that of a term.
func textsBeyondLimits() []string {
	return []string{
		computationOfAtoms(impl.TermMax + 1), pairsOf(impl.TermMax/2+1, "0"), "(lam x b " + computationOfAtoms(impl.TermMax-2) + ")", "(lam x (* b b) " + computationOfAtoms(impl.TermMax-4) + ")",
		computationOfBytes(impl.TextMax + 1), nested(101, "0"), nested(102, "x"), "(both (return 0) " + nested(99, "(thunk (fail (f b)))") + ")",
		nested(98, "(thunk (fail (f b)))"), nested(97, "(thunk (fail (f (* b b))))"),
		"(lam x " + valueTypeOf13 + " (return x))", "(fail " + computationTypeOf13 + ")",
	}
}

// textsAtLimits returns terms of which one number is just the greatest.
func textsAtLimits() []string {
	return []string{
		computationOfAtoms(impl.TermMax), pairsOf(impl.TermMax/2, "0"), "(lam x b " + computationOfAtoms(impl.TermMax-3) + ")", "(lam x (* b b) " + computationOfAtoms(impl.TermMax-5) + ")",
		computationOfBytes(impl.TextMax), nested(99, "0"), nested(100, "x"), "(both (return 0) " + nested(99, "x") + ")",
		nested(97, "(thunk (fail (f b)))"), nested(96, "(thunk (fail (f (* b b))))"),
		"(lam x " + valueTypeOf12 + " (return x))", "(fail " + computationTypeOf12 + ")",
	}
}

// pairsOf returns a value of so many leaves.
func pairsOf(leaves int, leaf string) string {
	if leaves == 1 {
		return leaf
	}
	return "(pair " + pairsOf(leaves/2, leaf) + " " + pairsOf(leaves-leaves/2, leaf) + ")"
}

// computationOfAtoms returns a closed computation of so many atoms.
func computationOfAtoms(n int) string {
	if n%2 == 1 {
		return "(fst " + computationOfAtoms(n-1) + ")"
	}
	return "(return " + pairsOf(n/2, "0") + ")"
}

// nested returns a value inside of so many parentheses: a computation if the number is odd.
func nested(n int, value string) string {
	for i := range n {
		value = []string{"(return ", "(thunk "}[i%2] + value + ")"
	}
	return value
}

// allOf returns a computation with all of some computations in a form of two, as both or try.
func allOf(head string, list []string) string {
	if len(list) == 1 {
		return list[0]
	}
	return "(" + head + " " + allOf(head, list[:len(list)/2]) + " " + allOf(head, list[len(list)/2:]) + ")"
}

// computationOfBytes returns a computation of so many bytes, which are about TextMax, with parentheses within each other at most 98 times.
func computationOfBytes(n int) string { return computationOfChains(n, 93) }

// computationOfChains is computationOfBytes with parts that have parentheses within each other so often, which is an odd number, or less often.
func computationOfChains(n int, nests int) string {
	return bothOfBytes(n, nests, func(nests int) string { return nested(nests, "a") })
}

// bothOfBytes returns a computation of so many bytes, which are about TextMax, of parts that are made for an odd number of at most so many parentheses. Each part has the letter a in one name alone.
func bothOfBytes(n int, nests int, part func(nests int) string) string {
	for equal := 14; equal <= 17; equal++ {
		for last := 1; last <= nests; last += 2 {
			parts := append(slices.Repeat([]string{part(nests)}, equal), part(last))
			missing := n - len(allOf("both", parts))
			if missing < 0 || missing > 3*len(parts) {
				continue
			}
			for i := range parts {
				longer := min(missing, 3)
				parts[i] = strings.Replace(parts[i], "a", "a"+strings.Repeat("0", longer), 1)
				missing -= longer
			}
			return allOf("both", parts)
		}
	}
	panic("no computation of " + strconv.Itoa(n) + " bytes")
}

func TestLimitsOfTerms(t *testing.T) {
	for i, s := range textsAtLimits() {
		sort := impl.TermSort(s)
		canon, canonOk := impl.TermCanon(s)
		if sort == "" || impl.TermSize(s) != len(strings.Fields(s)) || !canonOk || !impl.TermAlike(s, canon) {
			t.Errorf("text %d at a limit, %s: TermSort %q, TermSize %d, TermCanon %v", i, quoted(s), sort, impl.TermSize(s), canonOk)
		}
		if put, ok := impl.TermPut(s, "x", "0"); !ok || len(put) != len(s) {
			t.Errorf("TermPut(%s, x, 0) = %s, %v", quoted(s), quoted(put), ok)
		}
		kids, ok := impl.TermKids(s)
		for _, kid := range kids {
			ok = ok && impl.TermSort(kid) != ""
		}
		if !ok {
			t.Errorf("TermKids(%s) fails or has what is no term", quoted(s))
		}
	}
	for i, s := range textsBeyondLimits() {
		if impl.TermSort(s) != "" || impl.TermSize(s) != -1 {
			t.Errorf("text %d beyond a limit, %s: TermSort %q, TermSize %d", i, quoted(s), impl.TermSort(s), impl.TermSize(s))
		}
	}
	long := computationOfBytes(impl.TextMax)
	if len(long) != impl.TextMax || len(computationOfBytes(impl.TextMax+1)) != impl.TextMax+1 || impl.TermSize(long) >= impl.TermMax {
		t.Errorf("a computation of %d bytes and %d atoms", len(long), impl.TermSize(long))
	}
}

// wantLongPut wants that putting a value for z gives the text with it, if it is said to be a term.
func wantLongPut(t *testing.T, s, by string, fine bool) {
	t.Helper()
	want := ""
	if fine {
		want = strings.ReplaceAll(s, "z", by)
	}
	if put, ok := impl.TermPut(s, "z", by); ok != fine || put != want {
		t.Errorf("TermPut(%s, z, %s) of %d and %d bytes = %s, %v", quoted(s), quoted(by), len(s), len(by), quoted(put), ok)
	}
}

func TestPuttingWhatMakesNoTerm(t *testing.T) {
	// too many atoms
	wantLongPut(t, "(both (return z) "+computationOfAtoms(impl.TermMax-5)+")", "(pair 0 1)", true)
	wantLongPut(t, "(both (return z) "+computationOfAtoms(impl.TermMax-4)+")", "(pair 0 1)", false)
	wantLongPut(t, "(return z)", pairsOf(impl.TermMax/2, "1"), true)
	wantLongPut(t, "(fst (return z))", pairsOf(impl.TermMax/2, "1"), false)
	wantLongPut(t, pairsOf(impl.TermMax/2, "z"), "1", true)
	wantLongPut(t, pairsOf(impl.TermMax/2, "z"), "(pair 0 0)", false)
	wantLongPut(t, pairsOf(impl.TermMax/2, "z"), pairsOf(impl.TermMax/2, "1"), false)
	wantLongPut(t, pairsOf(250, "z"), "(pair 0 (pair 1 0))", true)
	wantLongPut(t, pairsOf(251, "z"), "(pair 0 (pair 1 0))", false)
	// too many bytes
	by := "(thunk (return 0))"
	around := len("(both (return ) )") + len(by)
	wantLongPut(t, "(both (return z) "+computationOfBytes(impl.TextMax-around)+")", by, true)
	wantLongPut(t, "(both (return z) "+computationOfBytes(impl.TextMax-around+1)+")", by, false)
	// too many parentheses within each other
	wantLongPut(t, nested(98, "z"), by, true)
	wantLongPut(t, nested(99, "z"), by, false)
	wantLongPut(t, nested(100, "z"), by, false)
	wantLongPut(t, nested(1, "z"), nested(98, "0"), true)
	wantLongPut(t, nested(3, "z"), nested(98, "0"), false)
	// what does not stand free is not put
	bound := strings.Replace(nested(97, "z"), "(return", "(get z (return", 1) + ")"
	if put, ok := impl.TermPut(bound, "z", nested(98, "0")); !ok || put != bound {
		t.Errorf("TermPut(%s, z, ..) = %s, %v", quoted(bound), quoted(put), ok)
	}
}

func TestCanonicalNamesThatAreTooLong(t *testing.T) {
	short := "(get x (return x))"
	around := len("(both  )") + len(short)
	for missing, fine := range map[int]bool{3: true, 2: true, 1: false, 0: false} {
		s := "(both " + short + " " + computationOfBytes(impl.TextMax-around-missing) + ")"
		want := ""
		if fine {
			want = strings.ReplaceAll(s, "x", "n0")
		}
		if canon, ok := impl.TermCanon(s); ok != fine || canon != want {
			t.Errorf("TermCanon of %d bytes = %s, %v", len(s), quoted(canon), ok)
		}
		wantAlike(t, s, strings.ReplaceAll(s, "x", "y"), true)
		if missing == 2 {
			wantAlike(t, s, want, true)
		}
	}
}

// manyBound returns a computation with so many splits, each of a free name from n<first> on, one after the other, and so many gets.
func manyBound(first, free, splits, gets int) string {
	var layers []string
	for i := range splits {
		layers = append(layers, "(split n"+strconv.Itoa(first+i%free)+" x y ")
	}
	layers = append(layers, slices.Repeat([]string{"(get x "}, gets)...)
	var chains []string
	for chain := range slices.Chunk(layers, 95) {
		chains = append(chains, strings.Join(chain, "")+"(return 0)"+strings.Repeat(")", len(chain)))
	}
	return allOf("both", chains)
}

func TestManyCanonicalNames(t *testing.T) {
	for _, w := range []struct {
		first, free, splits, gets int
		last                      string // the last name, or "" if more than 900 would be needed
	}{
		{0, 1, 372, 0, "n744"}, {999, 1, 372, 0, "n743"}, {0, 1, 300, 140, "n740"},
		{0, 300, 300, 0, "n899"}, {0, 299, 300, 0, "n898"}, {0, 299, 299, 1, "n897"}, {0, 300, 300, 1, ""}, {0, 301, 301, 0, ""}, {0, 299, 300, 1, "n899"}, {0, 299, 300, 2, ""},
		{600, 300, 300, 0, "n599"}, {600, 300, 300, 1, ""}, {599, 300, 300, 0, "n899"}, {601, 299, 300, 1, "n600"}, {0, 370, 370, 0, ""},
	} {
		s := manyBound(w.first, w.free, w.splits, w.gets)
		free, _ := impl.TermFree(s)
		if impl.TermSort(s) != "computation" || len(free) != w.free {
			t.Fatalf("%v: TermSort %q, %d free names", w, impl.TermSort(s), len(free))
		}
		canon, ok := impl.TermCanon(s)
		if ok != (w.last != "") || !ok && canon != "" {
			t.Errorf("%v: TermCanon %s, %v", w, quoted(canon), ok)
		}
		wantAlike(t, s, strings.NewReplacer("x", "z", "y", "x").Replace(s), true)
		if ok {
			wantCanonUpTo(t, s, canon, w.last)
		}
	}
}

// wantCanonUpTo wants a term with its free names and canonical ones up to a last one.
func wantCanonUpTo(t *testing.T, s, canon, last string) {
	t.Helper()
	greatest := 0
	free, _ := impl.TermFree(s)
	for _, word := range strings.Fields(strings.NewReplacer("(", " ", ")", " ").Replace(canon)) {
		if index, err := strconv.Atoi(strings.TrimPrefix(word, "n")); err == nil && word != "0" && !slices.Contains(free, word) {
			greatest = max(greatest, index)
		}
	}
	if again, ok := impl.TermCanon(canon); !ok || again != canon || !impl.TermAlike(s, canon) || "n"+strconv.Itoa(greatest) != last {
		t.Errorf("TermCanon %s up to n%d, want up to %s", quoted(canon), greatest, last)
	}
}
