package tests

import (
	"slices"
	"strconv"
	"strings"
	"testing"

	"loop.example/pushvalue/impl"
)

// Each test of this file holds a promise of chapter 10 against scripts whose answers are known, alone and behind other scripts, and against scripts that are invalid.

// wantOutput wants the lines of the output of a script.
func wantOutput(t *testing.T, script string, want ...string) {
	t.Helper()
	if got := impl.Execute(script); got != scriptOf(want...) {
		t.Fatalf("Execute(%q) = %q, want %q", script, got, scriptOf(want...))
	}
}

// wantBehind wants what some lines answer behind another script, and the last line.
func (w madeScript) wantBehind(t *testing.T, lines, answers []string, last string) {
	t.Helper()
	want := slices.Concat(w.answers, answers, []string{last})
	wantOutput(t, w.text+scriptOf(lines...), want...)
}

// wantAnswers wants what some lines that change all answer, and the last line: alone, and sometimes behind another script. It reports whether they have room.
func wantAnswers(t *testing.T, i int, lines, answers []string, last string) bool {
	t.Helper()
	of := len(scriptOf(lines...))
	if of > mostOfScript {
		wantOutput(t, scriptOf(lines...), "too long")
		return false
	}
	madeScript{}.wantBehind(t, lines, answers, last)
	if w := someScripts()[i%len(someScripts())]; i%3 == 0 && len(w.text)+of <= mostOfScript {
		w.wantBehind(t, lines, answers, last)
	}
	return true
}

// behindLastLines returns texts without a newline.
func behindLastLines() []string {
	return []string{"", " ", "x", "show", "run", "term", "term (return 1)", "term (pair 0 1)", "bit 1", "bit 0", "bit 2", "source (get)", "source x", "value", "name", "simplify", "define", "mean", "type", "eval byname", "count b", "zzz", "\r", "\x00", "\xff", "é", "\u2028", "\v", "\f", "bit 1\r", "bit 1\r ", "\\n", "show\u0085", strings.Repeat(" ", 30)}
}

func TestPromise86EmptyScriptsAndLastLines(t *testing.T) {
	t.Parallel()
	wantOutput(t, "", "atoms 2 bit 0")
	for _, rest := range behindLastLines() {
		wantOutput(t, rest, "atoms 2 bit 0")
	}
	compared, full := 0, 0
	for i, w := range someScripts() {
		want := impl.Execute(w.text)
		if want == "" || !strings.HasSuffix(want, "\n") || strings.Count(want, "\n") != len(linesOf(w.text))+1 {
			t.Fatalf("Execute(%q) = %q", w.text, want)
		}
		room := mostOfScript - len(w.text)
		filling := []string{strings.Repeat("é", room/2) + strings.Repeat(" ", room%2), strings.Repeat("x", room), "term " + strings.Repeat("(", max(0, room-5))}[i%3]
		for _, rest := range []string{behindLastLines()[i%len(behindLastLines())], "bit 1", filling} {
			if len(rest) > room {
				continue
			}
			compared++
			if len(rest) == room {
				full++
			}
			if got := impl.Execute(w.text + rest); got != want {
				t.Fatalf("Execute(%q) = %q, want %q", w.text+rest, got, want)
			}
		}
		wantOutput(t, w.text+strings.Repeat("x", room+1), "too long")
	}
	t.Log(compared, full)
	if compared < 3500 || full < 1200 {
		t.Errorf("%d texts behind the last newline, %d of which fill the script", compared, full)
	}
}

// scriptsWithRoom returns scripts that have room for just so many bytes and for more.
func scriptsWithRoom(room int) []madeScript {
	var all []madeScript
	for _, w := range someScripts() {
		if more := mostOfScript - room - len(w.text); more >= 0 {
			all = append(all, w, newMadeScript(w.text+strings.Repeat("\n", more)))
		}
	}
	return all
}

func TestPromise87OtherLinesAndFailures(t *testing.T) {
	t.Parallel()
	all := scriptsWithRoom(11)
	for _, w := range all {
		w.wantBehind(t, []string{"zzz", "term x"}, []string{"what", "no"}, lastLine(w.behind.term, w.behind.bit))
	}
	if len(all) < 2000 {
		t.Errorf("just %d scripts", len(all))
	}
}

func TestPromise88ShowingTwice(t *testing.T) {
	t.Parallel()
	all, terms := scriptsWithRoom(10), map[string]bool{}
	for _, w := range all {
		terms[w.behind.term] = true
		w.wantBehind(t, []string{"show", "show"}, []string{w.behind.term, w.behind.term}, lastLine(w.behind.term, w.behind.bit))
	}
	if len(all) < 2000 || len(terms) < 350 {
		t.Errorf("just %d scripts, with %d terms", len(all), len(terms))
	}
}

func TestPromise89Meanings(t *testing.T) {
	t.Parallel()
	meant := 0
	for i, w := range closedMeant() {
		bit := i / 2 % 2
		lines, answers := []string{"term " + w.text, "bit " + strconv.Itoa(bit), "mean"}, []string{"ok", "ok", strconv.Itoa(w.element)}
		if wantAnswers(t, i, lines, answers, lastLine(w.text, bit)) {
			meant++
		}
		if w.term.sort() == "value" {
			wantAnswers(t, i, []string{"term " + w.text, "run", "bit 0"}, []string{"ok", "no", "ok"}, lastLine(w.text, 0))
		}
	}
	for i, s := range notMeant() {
		wantAnswers(t, i, []string{"bit 1", "term " + s, "mean", "show"}, []string{"ok", "ok", "no", s}, lastLine(s, 1))
		wantAnswers(t, i, []string{"bit 1", "term " + s, "define", "show"}, []string{"ok", "ok", "no", s}, lastLine(s, 1))
	}
	for i, s := range untyped() {
		wantAnswers(t, i, []string{"bit 0", "term " + s, "type", "show"}, []string{"ok", "ok", "no", s}, lastLine(s, 0))
	}
	if meant < 1000 {
		t.Errorf("just %d terms with a meaning", meant)
	}
}

func TestPromise90Runs(t *testing.T) {
	t.Parallel()
	ran, without := map[string]int{}, 0
	for i, m := range closedComputations() {
		s := m.text()
		for bit := range 2 {
			end, _, what := madeState{m, nil, bit}.run(impl.FuelMax)
			lines, last := []string{"term " + s, "bit " + strconv.Itoa(bit), "run"}, lastLine(s, bit)
			if what != isEnd {
				wantAnswers(t, i, lines, []string{"ok", "ok", "no"}, last)
				without++
				continue
			}
			if end.comp.head == "fail" {
				end.bit = 0
			}
			answers := []string{"ok", "ok", end.print() + " " + strconv.Itoa(end.bit)}
			if wantAnswers(t, i, lines, answers, last) {
				ran[strconv.Itoa(bit)+" "+end.comp.head+" "+strconv.Itoa(end.bit)]++
			}
			wantAnswers(t, i, append(lines, "run", "show"), append(answers, answers[2], s), last)
		}
	}
	t.Log(ran, without)
	for _, end := range []string{"return 0", "return 1", "lam 0", "lam 1", "both 0", "both 1", "fail 0"} {
		for _, bit := range []string{"0 ", "1 "} {
			if ran[bit+end] < 10 {
				t.Errorf("just %d runs with %s", ran[bit+end], bit+end)
			}
		}
	}
	if without < 500 {
		t.Errorf("just %d runs do not end", without)
	}
}

func TestPromise91Translations(t *testing.T) {
	t.Parallel()
	translated, none := 0, 0
	for i, w := range namedSources() {
		if i%2 == 1 {
			continue
		}
		for word, of := range map[string]*madeTerm{"value": valueTranslator.made(w.term), "name": nameTranslator.made(w.term)} {
			lines := []string{"bit 0", "term (pair 1 (pair 0 1))", "source " + w.text, word, "show"}
			if !isTerm(of) {
				wantAnswers(t, i, lines, []string{"ok", "ok", "ok", "no", "(pair 1 (pair 0 1))"}, "atoms 5 bit 0")
				none++
				continue
			}
			if wantAnswers(t, i, lines, []string{"ok", "ok", "ok", "ok", of.text()}, lastLine(of.text(), 0)) {
				translated++
			}
		}
	}
	for i, s := range untypedSources() {
		if i%10 == 0 {
			wantAnswers(t, i, []string{"bit 1", "source (put 1)", "source " + s, "name", "show"}, []string{"ok", "ok", "no", "ok", "(to (return 1) v0 (put v0 (return v0)))"}, "atoms 8 bit 1")
		}
	}
	t.Log(translated, none)
	if translated < 6000 || none < 30 {
		t.Errorf("just %d expressions with a translation, %d without", translated, none)
	}
}

func TestPromise92Evaluations(t *testing.T) {
	t.Parallel()
	ended := map[string]int{}
	for i, w := range namedSources() {
		for bit := range 2 {
			for word, end := range map[string]sourceEnd{"byvalue": w.ends[bit], "byname": w.named[bit]} {
				want := end.print + " " + strconv.Itoa(end.bit)
				if end.cost > impl.FuelMax {
					want = "no"
				}
				lines := []string{"term 0", "source " + w.text, "bit " + strconv.Itoa(bit), "eval " + word}
				if wantAnswers(t, i, lines, []string{"ok", "ok", "ok", want}, "atoms 1 bit "+strconv.Itoa(bit)) {
					ended[word+" "+want]++
				}
				if i%10 == 0 {
					wantAnswers(t, i, append(lines, lines[3], "show"), []string{"ok", "ok", "ok", want, want, "0"}, "atoms 1 bit "+strconv.Itoa(bit))
				}
			}
		}
	}
	t.Log(ended)
	for _, end := range []string{"byvalue 0 0", "byvalue 1 0", "byvalue 0 1", "byvalue 1 1", "byvalue fail 0", "byvalue thunk 0", "byvalue (pair 0 1) 1", "byname (return 0) 0", "byname (return 1) 0", "byname (return 0) 1", "byname (return 1) 1", "byname lam 0", "byname lam 1", "byname both 0", "byname both 1", "byname fail 0"} {
		if ended[end] < 20 {
			t.Errorf("just %d evaluations end with %s", ended[end], end)
		}
	}
}

func TestPromise93Simplifications(t *testing.T) {
	t.Parallel()
	simplified, simple := 0, 0
	for i, w := range equationTerms() {
		if len(w.term.uses()) > 0 {
			wantAnswers(t, i, []string{"term 1", "bit 0", "term " + w.text, "simplify", "show"}, []string{"ok", "ok", "no", "no", "1"}, "atoms 1 bit 0")
			continue
		}
		lines := []string{"bit 1", "term " + w.text, "simplify", "show"}
		if w.once == nil {
			wantAnswers(t, i, lines, []string{"ok", "ok", "no", w.text}, lastLine(w.text, 1))
			simple++
			continue
		}
		if wantAnswers(t, i, lines, []string{"ok", "ok", "ok", w.once.text()}, lastLine(w.once.text(), 1)) {
			simplified++
		}
	}
	t.Log(simplified, simple)
	if simplified < 1500 || simple < 500 {
		t.Errorf("just %d closed terms can be simplified, and %d are simple", simplified, simple)
	}
}
