package tests

import (
	"slices"
	"strings"
	"testing"

	"loop.example/pushvalue/impl"
)

// Each test of this file holds a promise of chapter 2 against terms whose parts are known, and against texts that are no terms.

func TestPromise11SortsOfTerms(t *testing.T) {
	for _, m := range someTerms() {
		s, sort := m.text(), m.sort()
		if got := impl.TermSort(s); got != sort {
			t.Fatalf("TermSort(%s) = %q, want %q", s, got, sort)
		}
		kids, ok := impl.TermKids(s)
		if !ok || !slices.Equal(kids, m.kids()) {
			t.Fatalf("TermKids(%s) = %q, %v, want %q", s, kids, ok, m.kids())
		}
		for _, kid := range kids {
			if impl.TermSort(kid) == "" {
				t.Fatalf("TermKids(%s) has %q, which is no term", s, kid)
			}
		}
		if got := impl.TermHead(s); got != m.shownHead() {
			t.Fatalf("TermHead(%s) = %q, want %q", s, got, m.shownHead())
		}
		returned, suspended := impl.TermSort("(return "+s+")"), impl.TermSort("(thunk "+s+")")
		if sort == "value" && (returned != "computation" || suspended != "") || sort == "computation" && (returned != "" || suspended != "value") {
			t.Fatalf("return of %s is %q, and thunk of it %q", s, returned, suspended)
		}
	}
	for _, s := range noTerms() {
		kids, ok := impl.TermKids(s)
		if impl.TermSort(s) != "" || impl.TermHead(s) != "" || ok || len(kids) != 0 {
			t.Errorf("%s: TermSort %q, TermHead %q, TermKids %q, %v", quoted(s), impl.TermSort(s), impl.TermHead(s), kids, ok)
		}
	}
}

func TestPromise12Atoms(t *testing.T) {
	heads := map[string]string{"0": "bit", "1": "bit"}
	for c := 'a'; c <= 'z'; c++ {
		for _, digits := range []string{"", "0", "9", "00", "42", "000", "999"} {
			heads[string(c)+digits] = "name"
		}
	}
	for s, head := range heads {
		kids, ok := impl.TermKids(s)
		if impl.TermHead(s) != head || impl.TermSort(s) != "value" || !ok || len(kids) != 0 || impl.TermSize(s) != 1 {
			t.Errorf("%s: TermHead %q, TermSort %q, TermKids %q, %v, TermSize %d", s, impl.TermHead(s), impl.TermSort(s), kids, ok, impl.TermSize(s))
		}
		var want []string
		if head == "name" {
			want = []string{s}
		}
		if free, ok := impl.TermFree(s); !ok || !slices.Equal(free, want) || impl.TermClosed(s) != (head == "bit") {
			t.Errorf("TermFree(%s) = %q, %v, TermClosed %v", s, free, ok, impl.TermClosed(s))
		}
	}
	for _, m := range someTerms() {
		head := impl.TermHead(m.text())
		if (head == "name" || head == "bit") != (m.atom != "") {
			t.Fatalf("TermHead(%s) = %q", m.text(), head)
		}
	}
}

func TestPromise13PartsOfTerms(t *testing.T) {
	for _, m := range someTerms() {
		s := m.text()
		kids, _ := impl.TermKids(s)
		inside := map[string]bool{}
		for _, kid := range kids {
			if impl.TermSize(kid) >= impl.TermSize(s) {
				t.Fatalf("TermSize(%s) = %d, and %d of the whole %s", kid, impl.TermSize(kid), impl.TermSize(s), s)
			}
			free, _ := impl.TermFree(kid)
			for _, name := range free {
				inside[name] = true
			}
		}
		free, _ := impl.TermFree(s)
		for _, name := range free {
			if !inside[name] && name != s {
				t.Fatalf("TermFree(%s) = %q, but %s is free in no part", s, free, name)
			}
		}
	}
}

func TestPromise14FreeNames(t *testing.T) {
	for _, m := range someTerms() {
		s := m.text()
		free, ok := impl.TermFree(s)
		if !ok || !slices.Equal(free, m.free()) {
			t.Fatalf("TermFree(%s) = %q, %v, want %q", s, free, ok, m.free())
		}
		closed := s
		for i, name := range free {
			if impl.TermUses(s, name) < 1 || slices.Contains(free[:i], name) {
				t.Fatalf("TermFree(%s) = %q, TermUses of %s is %d", s, free, name, impl.TermUses(s, name))
			}
			closed, ok = impl.TermPut(closed, name, "0")
			if !ok {
				t.Fatalf("TermPut of %s as 0 in %s fails", name, s)
			}
		}
		if !impl.TermClosed(closed) {
			t.Fatalf("%s is not closed, though all free names of %s are put", closed, s)
		}
	}
	for _, s := range noTerms() {
		if free, ok := impl.TermFree(s); ok || len(free) != 0 {
			t.Errorf("TermFree(%s) = %q, %v", quoted(s), free, ok)
		}
	}
}

func TestPromise15ClosedTerms(t *testing.T) {
	for _, m := range someTerms() {
		s := m.text()
		free, _ := impl.TermFree(s)
		if impl.TermClosed(s) != (len(m.uses()) == 0) || impl.TermClosed(s) != (len(free) == 0) {
			t.Fatalf("TermClosed(%s) = %v, TermFree %q", s, impl.TermClosed(s), free)
		}
		if !impl.TermClosed(s) {
			continue
		}
		for _, name := range []string{"x", "y", "n0", "b", "f", "z999"} {
			if got, ok := impl.TermPut(s, name, "(pair 0 (thunk (return 1)))"); !ok || got != s {
				t.Fatalf("TermPut(%s, %s, ..) = %s, %v", s, name, got, ok)
			}
		}
	}
	for _, s := range noTerms() {
		if impl.TermClosed(s) {
			t.Errorf("TermClosed(%s) = true", quoted(s))
		}
	}
}

func TestPromise16CanonicalTerms(t *testing.T) {
	for _, m := range someTerms() {
		s := m.text()
		canon, ok := impl.TermCanon(s)
		if !ok || canon != m.canon() {
			t.Fatalf("TermCanon(%s) = %s, %v, want %s", s, canon, ok, m.canon())
		}
		again, ok := impl.TermCanon(canon)
		if !ok || again != canon || !impl.TermAlike(s, canon) {
			t.Fatalf("TermCanon(%s) = %s, and of this %s, %v; TermAlike %v", s, canon, again, ok, impl.TermAlike(s, canon))
		}
		free, _ := impl.TermFree(s)
		canonFree, _ := impl.TermFree(canon)
		if !slices.Equal(free, canonFree) || impl.TermSort(s) != impl.TermSort(canon) || impl.TermSize(s) != impl.TermSize(canon) {
			t.Fatalf("TermCanon(%s) = %s with other free names, sort or size", s, canon)
		}
	}
	for _, s := range noTerms() {
		if canon, ok := impl.TermCanon(s); ok || canon != "" {
			t.Errorf("TermCanon(%s) = %q, %v", quoted(s), canon, ok)
		}
	}
}

// wantAlike wants that two terms are alike exactly if it is so.
func wantAlike(t *testing.T, a, b string, want bool) {
	t.Helper()
	if impl.TermAlike(a, b) != want || impl.TermAlike(b, a) != want {
		t.Fatalf("TermAlike(%s, %s) = %v, and exchanged %v, want %v", a, b, impl.TermAlike(a, b), impl.TermAlike(b, a), want)
	}
	if !want {
		return
	}
	canonA, okA := impl.TermCanon(a)
	canonB, okB := impl.TermCanon(b)
	freeA, _ := impl.TermFree(a)
	freeB, _ := impl.TermFree(b)
	if canonA != canonB || okA != okB || !slices.Equal(freeA, freeB) || impl.TermHead(a) != impl.TermHead(b) || impl.TermSize(a) != impl.TermSize(b) {
		t.Fatalf("%s and %s are alike, but TermCanon, TermFree, TermHead or TermSize is not equal", a, b)
	}
}

func TestPromise17TermsThatAreAlike(t *testing.T) {
	t.Parallel()
	small := (termGrammar{[]string{"n0", "x"}, []string{"b"}, []string{"(f b)"}}).upTo(4)
	for _, m := range small {
		for _, other := range small {
			wantAlike(t, m.text(), other.text(), m.markedText() == other.markedText())
		}
	}
	d, alike, unlike := newTermDice(2), 0, 0
	for _, m := range someTerms() {
		other := d.renamed(m)
		want := m.markedText() == other.markedText()
		wantAlike(t, m.text(), other.text(), want)
		if want && m.text() != other.text() {
			alike++
		} else if !want {
			unlike++
		}
	}
	if alike < 100 || unlike < 100 {
		t.Errorf("%d pairs of other terms are alike, and %d are not", alike, unlike)
	}
	for _, s := range noTerms() {
		if impl.TermAlike(s, s) || impl.TermAlike(s, "x") || impl.TermAlike("x", s) {
			t.Errorf("TermAlike holds for %s", quoted(s))
		}
	}
}

func TestPromise18Putting(t *testing.T) {
	t.Parallel()
	d := newTermDice(3)
	values := []*madeTerm{madeAtom("0"), madeAtom("1")}
	for len(values) < 40 {
		if v := d.term('V', 4); len(v.uses()) == 0 {
			values = append(values, v)
		}
	}
	for i, m := range someTerms() {
		s, by := m.text(), values[i%len(values)]
		for _, name := range append(m.free(), "x", "n0", "z") {
			put, ok := impl.TermPut(s, name, by.text())
			if want := m.replaced(name, by).text(); !ok || put != want {
				t.Fatalf("TermPut(%s, %s, %s) = %s, %v, want %s", s, name, by.text(), put, ok, want)
			}
			uses := impl.TermUses(s, name)
			if impl.TermUses(put, name) != 0 || impl.TermSize(put) != impl.TermSize(s)+uses*(impl.TermSize(by.text())-1) {
				t.Fatalf("TermPut(%s, %s, %s) = %s, of the size %d", s, name, by.text(), put, impl.TermSize(put))
			}
			canon, _ := impl.TermCanon(s)
			if other, ok := impl.TermPut(canon, name, by.text()); !ok || !impl.TermAlike(put, other) {
				t.Fatalf("TermPut(%s, %s, %s) = %s, %v", canon, name, by.text(), other, ok)
			}
		}
	}
	for _, s := range noTerms() {
		wantNoPut(t, s, "x", "0")
		wantNoPut(t, "x", "x", s)
	}
}

func wantNoPut(t *testing.T, s, name, by string) {
	t.Helper()
	if put, ok := impl.TermPut(s, name, by); ok || put != "" {
		t.Errorf("TermPut(%s, %s, %s) = %s, %v", quoted(s), quoted(name), quoted(by), quoted(put), ok)
	}
}

func TestPromise19SizesOfTerms(t *testing.T) {
	for _, m := range someTerms() {
		s := m.text()
		size := impl.TermSize(s)
		if size != m.atoms() || size != len(strings.Fields(s)) {
			t.Fatalf("TermSize(%s) = %d, want %d", s, size, m.atoms())
		}
		kids, _ := impl.TermKids(s)
		rest := size
		for _, kid := range kids {
			rest -= impl.TermSize(kid)
		}
		if rest < 1 || m.atom != "" && size != 1 {
			t.Fatalf("TermSize(%s) = %d, and %d less than its parts", s, size, rest)
		}
	}
	for _, s := range noTerms() {
		if got := impl.TermSize(s); got != -1 {
			t.Errorf("TermSize(%s) = %d", quoted(s), got)
		}
	}
}

func TestPromise20UsesOfNames(t *testing.T) {
	t.Parallel()
	for _, m := range someTerms() {
		s, counts := m.text(), map[string]int{}
		for _, name := range m.uses() {
			counts[name]++
		}
		free, _ := impl.TermFree(s)
		for _, name := range []string{"x", "y", "n0", "n1", "n2", "n00", "b", "f", "a123", "z", "z999"} {
			uses := impl.TermUses(s, name)
			if uses != counts[name] || (uses > 0) != slices.Contains(free, name) || uses > impl.TermSize(s) {
				t.Fatalf("TermUses(%s, %s) = %d, want %d", s, name, uses, counts[name])
			}
			around := "(get " + name + " " + s + ")"
			if got := impl.TermUses(around, name); m.sort() == "computation" && got != 0 || m.sort() == "value" && got != -1 {
				t.Fatalf("TermUses(%s, %s) = %d", around, name, got)
			}
		}
	}
	for _, s := range noTerms() {
		if got := impl.TermUses(s, "x"); got != -1 {
			t.Errorf("TermUses(%s, x) = %d", quoted(s), got)
		}
	}
}
