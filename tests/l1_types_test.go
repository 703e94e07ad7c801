package tests

import (
	"math"
	"slices"
	"testing"

	"loop.example/pushvalue/impl"
)

func TestTypeOfOneAtom(t *testing.T) {
	kids, ok := impl.TypeKids("b")
	if impl.TypeKind("b") != "value" || impl.TypeHead("b") != "b" || !ok || len(kids) != 0 || !impl.TypePlain("b") || impl.TypeCount("b") != 2 {
		t.Errorf("b: %q, %q, %q, %v, %v, %d", impl.TypeKind("b"), impl.TypeHead("b"), kids, ok, impl.TypePlain("b"), impl.TypeCount("b"))
	}
	if thunk, ok := impl.TypeThunk("b"); ok || thunk != "" {
		t.Errorf("TypeThunk(b) = %q, %v", thunk, ok)
	}
	for k := range 3 {
		wantNoParts(t, "b", k)
	}
}

func TestOtherTextsOfOneAtomAreNoTypes(t *testing.T) {
	for c := range 256 {
		s := string([]byte{byte(c)})
		if (impl.TypeKind(s) != "") != (s == "b") || impl.TypeKind("("+s+")") != "" || impl.TypeKind("b"+s) != "" || impl.TypeKind(s+"b") != "" {
			t.Errorf("the byte %d is taken for a type, or in one", c)
		}
		if (impl.TypeKind("(f "+s+")") != "") != (s == "b") || (impl.TypeKind("("+s+" b)") != "") != (s == "f") || (impl.TypeKind("(f"+s+"b)") != "") != (s == " ") {
			t.Errorf("the byte %d is taken wrongly in (f b)", c)
		}
	}
}

// TestTypesWithAWrongByte changes texts of types in one place, and holds what comes out against all types there are.
func TestTypesWithAWrongByte(t *testing.T) {
	kinds := map[string]string{}
	for _, w := range allTypes() {
		kinds[w.text] = w.kind
	}
	for _, w := range makeGrammar(6).upTo(6) {
		for i := range len(w.text) + 1 {
			for _, sign := range []string{"", " ", "(", ")", "*", ">", "&", "b", "u", "f", "x", "0", "B", "-", "\n", "\x00", "\xe9"} {
				changed := []string{w.text[:i] + sign + w.text[i:]}
				if i < len(w.text) {
					changed = append(changed, w.text[:i]+sign+w.text[i+1:])
				}
				for _, s := range changed {
					if got := impl.TypeKind(s); got != kinds[s] {
						t.Fatalf("TypeKind(%q) = %q, want %q", s, got, kinds[s])
					}
				}
			}
		}
	}
}

func TestTypesOfJustAtomsMaxAtoms(t *testing.T) {
	const ten = "(> b (f (u (> b (f (* b b))))))"
	const eleven, twelve = "(& (f b) (f (u (> b (f (* b b))))))", "(> b " + ten + ")"
	for s, want := range map[string]string{
		ten: "computation", eleven: "computation", twelve: "computation", "(u " + ten + ")": "value", "(u " + eleven + ")": "value",
		"(* b (u " + ten[:len(ten)-1] + ")))": "", "(* (u " + ten + ") b)": "", "(u " + twelve + ")": "", "(> b " + eleven + ")": "", "(& " + ten + " (f b))": "",
		"(* b (* b (* b (u (& (f b) (f b))))))": "value", "(f (* b (* b (* b (u (& (f b) (f b)))))))": "",
		"(* (* (* b b) b) (u (& (f b) (f b))))": "value", "(* (* (* b b) (* b b)) (u (> b (f b))))": "",
		"(> (* (* b b) (* b (* b b))) (f b))": "computation", "(> (* (* b b) (* b (* b b))) (> b (f b)))": "",
	} {
		if got := impl.TypeKind(s); got != want {
			t.Errorf("TypeKind(%s) = %q, want %q", s, got, want)
		}
		kids, ok := impl.TypeKids(s)
		if want == "" && (impl.TypeHead(s) != "" || ok || len(kids) != 0 || impl.TypePlain(s) || impl.TypeCount(s) != -1) {
			t.Errorf("%s is a type with more than AtomsMax atoms", s)
		}
	}
	if thunk, ok := impl.TypeThunk(eleven); !ok || thunk != "(u "+eleven+")" {
		t.Errorf("TypeThunk(%s) = %q, %v", eleven, thunk, ok)
	}
	if thunk, ok := impl.TypeThunk(twelve); ok || thunk != "" {
		t.Errorf("TypeThunk(%s) = %q, %v", twelve, thunk, ok)
	}
}

func TestCounts(t *testing.T) {
	counts := map[string]int{
		"(* b b)": 4, "(u (f b))": 25, "(f b)": 25, "(f (* b b))": 81, "(> b (f b))": 625, "(& (f b) (f (* b b)))": 2025,
		"(f (u (f b)))": 2601, "(u (> b (f b)))": 625, "(f (* b (* b (* b (* b b)))))": 4225,
		// just CountMax
		"(* b (* b (* b (u (> b (f b))))))": 5000, "(* b (* b (* b (u (& (f b) (f b))))))": 5000,
		// beyond CountMax, with parts that are not
		"(* b (u (f (u (f b)))))": -1, "(f (* b (u (f b))))": -1, "(f (* b (* b (* b (* b (* b b))))))": -1, "(& (f b) (> b (f b)))": -1,
		"(> (* b b) (f b))": -1, "(> b (f (* b b)))": -1, "(> b (> b (f b)))": -1, "(& (f (* b b)) (f (* b b)))": -1,
		// far beyond it
		"(> (u (f b)) (f b))": -1, "(> (u (f (u (f b)))) (f b))": -1, "(> (u (f (u (f b)))) (f (u (f b))))": -1, "(> (u (> b (f b))) (> b (f b)))": -1,
		// with a part beyond it
		"(* b (* b (u (f (u (f b))))))": -1, "(u (> (* b b) (f b)))": -1, "(f (u (> b (f (* b b)))))": -1, "(u (f (u (f (u (f (u (f b))))))))": -1,
		"(> b (> (* b b) (f b)))": -1, "(> (u (> (* b b) (f b))) (f b))": -1, "(& (> (* b b) (f b)) (f b))": -1, "(& (f b) (> (* b b) (f b)))": -1,
	}
	for s, want := range counts {
		if got := impl.TypeCount(s); got != want {
			t.Errorf("TypeCount(%s) = %d, want %d", s, got, want)
		}
	}
}

// wantNoParts wants that no function finds anything in a text and a number.
func wantNoParts(t *testing.T, s string, k int) {
	t.Helper()
	if x, y, ok := impl.PairParts(s, k); ok || x != 0 || y != 0 {
		t.Errorf("PairParts(%s, %d) = %d, %d, %v", quoted(s), k, x, y, ok)
	}
	wantNoOutcome(t, s, k, 0)
	wantNoOutcome(t, s, k, 1)
	wantNoFunAt(t, s, k, 0)
	wantNoFunAt(t, s, k, 1)
}

func wantNoOutcome(t *testing.T, s string, k, state int) {
	t.Helper()
	if fine, behind, a, ok := impl.ReturnOutcome(s, k, state); ok || fine || behind != 0 || a != 0 {
		t.Errorf("ReturnOutcome(%s, %d, %d) = %v, %d, %d, %v", quoted(s), k, state, fine, behind, a, ok)
	}
}

func wantNoFunAt(t *testing.T, s string, k, a int) {
	t.Helper()
	if c, ok := impl.FunAt(s, k, a); ok || c != 0 {
		t.Errorf("FunAt(%s, %d, %d) = %d, %v", quoted(s), k, a, c, ok)
	}
}

func wantNoFunOf(t *testing.T, s string, list []int) {
	t.Helper()
	if k, ok := impl.FunOf(s, list); ok || k != 0 {
		t.Errorf("FunOf(%s, %d) = %d, %v", quoted(s), list, k, ok)
	}
}

func TestLeastAndGreatestElements(t *testing.T) {
	for _, w := range []struct {
		s                            string
		count, lastFirst, lastSecond int
	}{{"(* b b)", 4, 1, 1}, {"(* b (u (f b)))", 50, 1, 24}, {"(* (u (f b)) b)", 50, 24, 1}, {"(& (f b) (f (* b b)))", 2025, 24, 80}, {"(* b (* b (* b (u (> b (f b))))))", 5000, 1, 2499}} {
		if x, y, ok := impl.PairParts(w.s, 0); !ok || x != 0 || y != 0 {
			t.Errorf("PairParts(%s, 0) = %d, %d, %v", w.s, x, y, ok)
		}
		if x, y, ok := impl.PairParts(w.s, w.count-1); !ok || x != w.lastFirst || y != w.lastSecond {
			t.Errorf("PairParts(%s, %d) = %d, %d, %v", w.s, w.count-1, x, y, ok)
		}
	}
	for state := range 2 {
		if fine, behind, a, ok := impl.ReturnOutcome("(f (* b b))", 0, state); !ok || fine || behind != 0 || a != 0 {
			t.Errorf("ReturnOutcome((f (* b b)), 0, %d) = %v, %d, %d, %v", state, fine, behind, a, ok)
		}
		if fine, behind, a, ok := impl.ReturnOutcome("(f (* b b))", 80, state); !ok || !fine || behind != 1 || a != 3 {
			t.Errorf("ReturnOutcome((f (* b b)), 80, %d) = %v, %d, %d, %v", state, fine, behind, a, ok)
		}
		for k, want := range map[int]int{0: 0, 624: 24} {
			if c, ok := impl.FunAt("(> b (f b))", k, state); !ok || c != want {
				t.Errorf("FunAt((> b (f b)), %d, %d) = %d, %v", k, state, c, ok)
			}
		}
	}
	for k, c := range map[int]int{0: 0, 624: 24} {
		if got, ok := impl.FunOf("(> b (f b))", []int{c, c}); !ok || got != k {
			t.Errorf("FunOf((> b (f b)), [%d %d]) = %d, %v", c, c, got, ok)
		}
	}
}

func TestNumbersThatAreNoElements(t *testing.T) {
	for _, w := range countedTypes("") {
		for _, k := range []int{-1, -2, -w.count, w.count, w.count + 1, math.MinInt, math.MaxInt} {
			wantNoParts(t, w.text, k)
		}
	}
	for _, state := range []int{-1, 2, 3, math.MinInt, math.MaxInt} {
		wantNoOutcome(t, "(f b)", 22, state)
		wantNoFunAt(t, "(> b (f b))", 178, state)
	}
}

func TestTypesWithoutTheAskedParts(t *testing.T) {
	for _, w := range allTypes() {
		_, _, pair := impl.PairParts(w.text, 0)
		_, _, _, outcome := impl.ReturnOutcome(w.text, 0, 0)
		_, at := impl.FunAt(w.text, 0, 0)
		_, of := impl.FunOf(w.text, []int{0, 0})
		counted := w.count != -1
		if pair != (counted && (w.head == "*" || w.head == "&")) || outcome != (counted && w.head == "f") || at != (counted && w.head == ">") || of != at {
			t.Fatalf("%s: PairParts %v, ReturnOutcome %v, FunAt %v, FunOf %v", w.text, pair, outcome, at, of)
		}
		if !counted {
			wantNoParts(t, w.text, 1)
		}
	}
	for _, s := range noTypes() {
		wantNoParts(t, s, 0)
		wantNoParts(t, s, 1)
		wantNoFunOf(t, s, []int{0, 0})
		wantNoFunOf(t, s, nil)
	}
}

func TestListsThatAreNoFunctions(t *testing.T) {
	for _, list := range [][]int{nil, {}, {0}, {24}, {0, 0, 0}, {3, 7, 0}, {25, 0}, {0, 25}, {-1, 0}, {0, -1}, {26, -1}, {math.MaxInt, 0}, {0, math.MinInt}, make([]int, 25), make([]int, 5000)} {
		wantNoFunOf(t, "(> b (f b))", list)
	}
	wantNoFunOf(t, "(> (* b b) (f b))", []int{0, 0, 0, 0})
	wantNoFunOf(t, "(> b (f (* b b)))", []int{0, 0})
	wantNoFunOf(t, "(> (u (f b)) (f b))", make([]int, 25))
	wantNoFunOf(t, "(& (f b) (f b))", []int{0, 0})
}

func TestResultsShareNoMemory(t *testing.T) {
	s := "(> b (f b))"
	first, _ := impl.TypeKids(s)
	second, _ := impl.TypeKids(s)
	first[0], first[1] = "x", "y"
	_ = append(first[:1], "z")
	third, _ := impl.TypeKids(s)
	for _, kids := range [][]string{second, third} {
		if !slices.Equal(kids, []string{"b", "(f b)"}) {
			t.Errorf("TypeKids(%s) = %q behind a change of another result", s, kids)
		}
	}
	room := []int{3, 7, 11, 13}
	if k, ok := impl.FunOf(s, room[:2]); !ok || k != 178 || !slices.Equal(room, []int{3, 7, 11, 13}) {
		t.Errorf("FunOf(%s, [3 7]) = %d, %v, and the list is %d", s, k, ok, room)
	}
	wrong := []int{3, 25, 11}
	wantNoFunOf(t, s, wrong[:2])
	if !slices.Equal(wrong, []int{3, 25, 11}) {
		t.Errorf("FunOf changed its list to %d", wrong)
	}
}
