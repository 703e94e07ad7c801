package tests

import (
	"slices"
	"strings"
	"testing"

	"loop.example/pushvalue/impl"
)

// Each test of this file holds a promise of chapter 1 against all types there are, and against texts that are none.

func TestPromise1KindsOfTypes(t *testing.T) {
	for _, w := range allTypes() {
		if got := impl.TypeKind(w.text); got != w.kind {
			t.Fatalf("TypeKind(%s) = %q, want %q", w.text, got, w.kind)
		}
		kids, _ := impl.TypeKids(w.text)
		for _, kid := range kids {
			if impl.TypeKind(kid) == "" {
				t.Fatalf("TypeKids(%s) has %q, which is no type", w.text, kid)
			}
		}
		head := impl.TypeHead(w.text)
		if (w.kind == "value") != (head == "b" || head == "*" || head == "u") {
			t.Fatalf("TypeHead(%s) = %q for a %s", w.text, head, w.kind)
		}
		if thunk, ok := impl.TypeThunk(w.text); w.kind == "value" && (ok || thunk != "") {
			t.Fatalf("TypeThunk(%s) = %q, %v", w.text, thunk, ok)
		}
	}
	for _, s := range noTypes() {
		if got := impl.TypeKind(s); got != "" {
			t.Errorf("TypeKind(%s) = %q", quoted(s), got)
		}
	}
}

func TestPromise2HeadsOfTypes(t *testing.T) {
	parts := map[string]int{"b": 0, "u": 1, "f": 1, "*": 2, ">": 2, "&": 2}
	for _, w := range allTypes() {
		head := impl.TypeHead(w.text)
		kids, ok := impl.TypeKids(w.text)
		if n, known := parts[head]; head != w.head || !known || !ok || len(kids) != n {
			t.Fatalf("TypeHead(%s) = %q, TypeKids = %q, %v", w.text, head, kids, ok)
		}
	}
	for _, s := range noTypes() {
		if got := impl.TypeHead(s); got != "" {
			t.Errorf("TypeHead(%s) = %q", quoted(s), got)
		}
	}
}

func TestPromise3PartsMakeTheType(t *testing.T) {
	for _, w := range allTypes() {
		kids, ok := impl.TypeKids(w.text)
		if !ok {
			t.Fatalf("TypeKids(%s) fails", w.text)
		}
		text := "(" + strings.Join(append([]string{impl.TypeHead(w.text)}, kids...), " ") + ")"
		if text != w.text && w.text != "b" {
			t.Fatalf("head and parts of %s make %s", w.text, text)
		}
		var want []string
		for _, kid := range w.kids {
			want = append(want, kid.text)
		}
		if !slices.Equal(kids, want) {
			t.Fatalf("TypeKids(%s) = %q, want %q", w.text, kids, want)
		}
	}
	for _, s := range noTypes() {
		if kids, ok := impl.TypeKids(s); ok || len(kids) != 0 {
			t.Errorf("TypeKids(%s) = %q, %v", quoted(s), kids, ok)
		}
	}
}

func TestPromise4PlainTypes(t *testing.T) {
	for _, w := range allTypes() {
		if got := impl.TypePlain(w.text); got != w.plain {
			t.Fatalf("TypePlain(%s) = %v", w.text, got)
		}
		if !w.plain {
			continue
		}
		kids, _ := impl.TypeKids(w.text)
		for _, kid := range kids {
			if !impl.TypePlain(kid) {
				t.Fatalf("TypePlain(%s) = false, within %s", kid, w.text)
			}
		}
		if head := impl.TypeHead(w.text); !strings.Contains("b*f", head) {
			t.Fatalf("TypeHead(%s) = %q, though it is plain", w.text, head)
		}
		if n := impl.TypeCount(w.text); n != -1 && (n%2 == 0) != (impl.TypeKind(w.text) == "value") {
			t.Fatalf("TypeCount(%s) = %d", w.text, n)
		}
	}
	for _, s := range noTypes() {
		if impl.TypePlain(s) {
			t.Errorf("TypePlain(%s) = true", quoted(s))
		}
	}
}

func TestPromise5CountsOfTypes(t *testing.T) {
	for _, w := range allTypes() {
		n := impl.TypeCount(w.text)
		if n != w.count {
			t.Fatalf("TypeCount(%s) = %d, want %d", w.text, n, w.count)
		}
		if n == -1 {
			continue
		}
		if n < 2 || n > impl.CountMax {
			t.Fatalf("TypeCount(%s) = %d", w.text, n)
		}
		kids, _ := impl.TypeKids(w.text)
		for _, kid := range kids {
			if impl.TypeCount(kid) == -1 {
				t.Fatalf("TypeCount(%s) = -1, within %s", kid, w.text)
			}
		}
		if thunk, ok := impl.TypeThunk(w.text); ok && impl.TypeCount(thunk) != n {
			t.Fatalf("TypeCount(%s) = %d, but %d inside", thunk, impl.TypeCount(thunk), n)
		}
	}
	for _, s := range noTypes() {
		if got := impl.TypeCount(s); got != -1 {
			t.Errorf("TypeCount(%s) = %d", quoted(s), got)
		}
	}
}

func TestPromise6PartsOfPairs(t *testing.T) {
	t.Parallel()
	for _, w := range countedTypes("*&") {
		first, second := w.kids[0].count, w.kids[1].count
		k := 0
		for a := range first {
			for b := range second {
				x, y, ok := impl.PairParts(w.text, k)
				if !ok || x != a || y != b || x*second+y != k {
					t.Fatalf("PairParts(%s, %d) = %d, %d, %v", w.text, k, x, y, ok)
				}
				k++
			}
		}
		if k != w.count {
			t.Fatalf("%s has %d pairs of elements, and the count %d", w.text, k, w.count)
		}
	}
}

func TestPromise7OutcomesOfReturns(t *testing.T) {
	t.Parallel()
	for _, w := range countedTypes("f") {
		n := w.kids[0].count
		for k := range w.count {
			sum, weight := 0, 1
			for state := range 2 {
				fine, behind, a, ok := impl.ReturnOutcome(w.text, k, state)
				outcome := 0
				if fine {
					outcome = 1 + behind*n + a
				}
				if !ok || behind < 0 || behind > 1 || a < 0 || a >= n || !fine && (behind != 0 || a != 0) {
					t.Fatalf("ReturnOutcome(%s, %d, %d) = %v, %d, %d, %v", w.text, k, state, fine, behind, a, ok)
				}
				sum += outcome * weight
				weight *= 2*n + 1
			}
			if sum != k {
				t.Fatalf("the outcomes of ReturnOutcome(%s, %d) make %d", w.text, k, sum)
			}
		}
	}
}

func TestPromise8FunctionsAt(t *testing.T) {
	for _, w := range countedTypes(">") {
		arguments, results := w.kids[0].count, w.kids[1].count
		for k := range w.count {
			var list []int
			for a := range arguments {
				c, ok := impl.FunAt(w.text, k, a)
				if !ok || c < 0 || c >= results {
					t.Fatalf("FunAt(%s, %d, %d) = %d, %v", w.text, k, a, c, ok)
				}
				list = append(list, c)
			}
			if again, ok := impl.FunOf(w.text, list); !ok || again != k {
				t.Fatalf("FunOf(%s, %d) = %d, %v, want %d", w.text, list, again, ok, k)
			}
		}
	}
}

func TestPromise9FunctionsOfLists(t *testing.T) {
	s := "(> b (f b))"
	seen := map[int]bool{}
	for c0 := range 25 {
		for c1 := range 25 {
			k, ok := impl.FunOf(s, []int{c0, c1})
			if !ok || k != c0+c1*25 || seen[k] {
				t.Fatalf("FunOf(%s, [%d %d]) = %d, %v", s, c0, c1, k, ok)
			}
			seen[k] = true
			for a, want := range []int{c0, c1} {
				if c, ok := impl.FunAt(s, k, a); !ok || c != want {
					t.Fatalf("FunAt(%s, %d, %d) = %d, %v, want %d", s, k, a, c, ok, want)
				}
			}
		}
	}
}

func TestPromise10SuspendedTypes(t *testing.T) {
	for _, w := range allTypes() {
		thunk, ok := impl.TypeThunk(w.text)
		want := ""
		if w.kind == "computation" && w.atoms < impl.AtomsMax {
			want = "(u " + w.text + ")"
		}
		if thunk != want || ok != (want != "") {
			t.Fatalf("TypeThunk(%s) = %q, %v", w.text, thunk, ok)
		}
		if !ok {
			continue
		}
		kids, _ := impl.TypeKids(thunk)
		if impl.TypeKind(thunk) != "value" || !slices.Equal(kids, []string{w.text}) || impl.TypePlain(thunk) {
			t.Fatalf("%s: TypeKind %q, TypeKids %q, TypePlain %v", thunk, impl.TypeKind(thunk), kids, impl.TypePlain(thunk))
		}
	}
	for _, s := range append(noTypes(), "(f b)) (f b", "(f b))", "f b", "(f b) (f b)", "(f b) b") {
		if thunk, ok := impl.TypeThunk(s); ok || thunk != "" {
			t.Errorf("TypeThunk(%s) = %s, %v", quoted(s), quoted(thunk), ok)
		}
	}
}
