package tests

import (
	"slices"
	"strconv"
	"strings"
	"sync"
	"testing"

	"loop.example/pushvalue/impl"
)

// mostOfScript is the greatest number of bytes of a script.
const mostOfScript = 900

// A scriptRun is what the lines of a script have changed so far.
type scriptRun struct {
	term, source string
	bit          int
}

// answer returns the output for a line, by the function that the document names for it.
func (r *scriptRun) answer(line string) string {
	switch line {
	case "value":
		return r.termOf(impl.ValueOf(r.source))
	case "name":
		return r.termOf(impl.NameOf(r.source))
	case "simplify":
		return r.termOf(impl.SimplifyOnce(r.term))
	case "define":
		return r.termOf(impl.DefineAgain(r.term))
	case "show":
		return r.term
	case "type":
		typ, ok := impl.TermType([]string{}, []string{}, r.term)
		return toldIf(ok, typ)
	case "mean":
		element, ok := impl.Denote(r.term)
		return toldIf(ok, strconv.Itoa(element))
	case "run":
		print, bit, _, ok := impl.Run(r.term, r.bit, 5000)
		return toldIf(ok, print+" "+strconv.Itoa(bit))
	case "eval byvalue":
		print, bit, ok := impl.EvalValue(r.source, r.bit, 5000)
		return toldIf(ok, print+" "+strconv.Itoa(bit))
	case "eval byname":
		print, bit, ok := impl.EvalName(r.source, r.bit, 5000)
		return toldIf(ok, print+" "+strconv.Itoa(bit))
	case "bit 0", "bit 1":
		r.bit = int(line[4] - '0')
		return "ok"
	}
	return r.answerWithRest(line)
}

func (r *scriptRun) answerWithRest(line string) string {
	if rest, ok := strings.CutPrefix(line, "term "); ok {
		if impl.TermClosed(rest) {
			return r.termOf(rest, true)
		}
		return "no"
	}
	if rest, ok := strings.CutPrefix(line, "source "); ok {
		if _, typed := impl.SourceType(rest); typed {
			r.source = rest
			return "ok"
		}
		return "no"
	}
	if rest, ok := strings.CutPrefix(line, "count "); ok {
		elements := impl.TypeCount(rest)
		return toldIf(elements > -1, strconv.Itoa(elements))
	}
	if strings.HasPrefix(line, "bit ") || strings.HasPrefix(line, "eval ") {
		return "no"
	}
	return "what"
}

func (r *scriptRun) termOf(term string, ok bool) string {
	if ok {
		r.term = term
	}
	return toldIf(ok, "ok")
}

func toldIf(ok bool, told string) string {
	if ok {
		return told
	}
	return "no"
}

// linesOf returns the lines of a script that end with a newline, without it.
func linesOf(script string) []string {
	lines := strings.Split(script, "\n")
	return lines[:len(lines)-1]
}

// answersOf returns the answers to all lines of a script that is not too long, and what stands behind them.
func answersOf(script string) ([]string, scriptRun) {
	r := scriptRun{"(return 0)", "0", 0}
	var answers []string
	for _, line := range linesOf(script) {
		answers = append(answers, r.answer(line))
	}
	return answers, r
}

// outputOf returns the output of a script.
func outputOf(script string) string {
	if len(script) > mostOfScript {
		return "too long\n"
	}
	answers, r := answersOf(script)
	return scriptOf(append(answers, lastLine(r.term, r.bit))...)
}

func lastLine(term string, bit int) string {
	return "atoms " + strconv.Itoa(impl.TermSize(term)) + " bit " + strconv.Itoa(bit)
}

// scriptOf returns a text with these lines, each with its newline.
func scriptOf(lines ...string) string {
	if len(lines) == 0 {
		return ""
	}
	return strings.Join(lines, "\n") + "\n"
}

// The words that have no rest and those that have one.
var (
	loneWords = []string{"value", "name", "simplify", "show", "type", "run", "mean", "define"}
	restWords = []string{"term", "bit", "source", "eval", "count"}
)

// otherLines returns lines that are none of those that are told, with a space where no rest is told or none where one is told among them.
func otherLines() []string {
	lines := []string{
		"", " ", "  ", "\t", "\r", "\x00", "\xff", "é", "zzz", "x", "0", "1", "b", "(return 0)", "(f b)", "(get)", " 0", " (return 0)", "ok", "no", "what", "what what", "atoms", "bits", "atoms 2 bit 0", "too long", "byvalue", "byname", "eval-byname", "evalbyvalue", "run 0", "show term", "type (return 0)", "mean (return 0)", "simplify 2", "define (f b) 0", "value 0", "name 0", "value byvalue",
		"bit0", "bit1", "bit\t0", "bit=0", "bit,1", "bit\x000", "bit\u00a00", "term(return 0)", "term\t(return 0)", "term\r(return 0)", "source0", "source\t0", "count(f b)", "count\tb", "eval\tbyvalue", "eval\vbyname", "terms (return 0)", "trm (return 0)", "Term (return 0)", "TERM (return 0)", "erm (return 0)", "sourc 0", "sources 0", "evalue byvalue", "counts b", "(term) (return 0)", "term, (return 0)", "\"term\" (return 0)", "bıt 0", "ｂit 0", "set 0", "state 1", "print", "help", "quit", "stop", "separate", "equal",
	}
	capital := func(word string) string { return strings.ToUpper(word[:1]) + word[1:] }
	for _, word := range loneWords {
		lines = append(lines, word+" ", word+"  ", word+" x", word+" 0", word+" 1", word+" (return 0)", word+" "+word, word+" \r")
	}
	for _, word := range restWords {
		lines = append(lines, word, word+"(", word+"(return 0)")
		for _, rest := range []string{"0", "1", "(return 0)", "byvalue", "byname", "b", "(f b)"} {
			lines = append(lines, " "+word+" "+rest, word+"s "+rest, word[1:]+" "+rest, word[:len(word)-1]+" "+rest, strings.ToUpper(word)+" "+rest, capital(word)+" "+rest, word+"\t"+rest, word+"\t "+rest, word+word+" "+rest, word+rest)
		}
	}
	for _, word := range slices.Concat(loneWords, restWords) {
		lines = append(lines, " "+word, "  "+word, "\t"+word, "\ufeff"+word, word+"\t", word+"\r", word+"\x00", word+".", word+"0", word+"s", word+word, word+";"+word, word[1:], word[:len(word)-1], word[:1], strings.ToUpper(word), capital(word), "x"+word, "-"+word, "("+word+")")
	}
	return lines
}

// badRests returns rests of words with which their line fails.
func badRests() map[string][]string {
	around := func(fine ...string) []string {
		rests := []string{"", " ", "  ", "\t", "\r", "\x00", "\xff", "é", "(", ")", "()"}
		for _, s := range fine {
			rests = append(rests, " "+s, s+" ", "  "+s, s+"  ", " "+s+" ", "\t"+s, s+"\t", s+"\r", s+"\x00", s+" "+s, s+s, "("+s+")", "("+s, s+")", "\""+s+"\"", s+" 0", "0 "+s, strings.ToUpper("x"+s), s[:len(s)-1]+"\xff")
		}
		return rests
	}
	fitsNoLine := func(s string) bool { return len(s) > 120 || strings.Contains(s, "\n") }
	open := []string{"x", "(return x)", "(pair 0 x)", "(thunk (return x))", "(get x (return y))", "(lam x b (force f))", "(to (return x) x (return x))", "(split (pair 0 1) x y (return z))", "(put x (return 0))", "(if x (return 0) (return 1))", "(app (lam x b (return x)) x)", "(fst (both (return 0) (return z)))"}
	source := append(around("0", "(get)", "(pair 0 1)", "(lam x b x)"), "x", "(put x)", "(lam x b y)", "(app (lam x b x) x)", "(pair 0 x)", "(app 0 0)", "(fst 0)", "(snd (lam x b x))", "(if (pair 0 1) 0 1)", "(if 0 0 (pair 0 1))", "(put (pair 0 1))", "(app (lam x b x) (pair 0 1))", "(app (lam x b (app x x)) 0)", "(pair 0 (fail "+sourceTypeOf11+"))", "(fst (pair 0 (fail "+sourceTypeOf11+")))")
	count := append(around("b", "(f b)", "(> b (f b))"), "(> b (> b (f b)))", "(> (* b b) (f b))", "(f (u (> b (f b))))", "(* b (u (> b (& (f b) (f b)))))", "(& (f (* b b)) (f (* b b)))", "(> b b)", "(u b)", "(f (f b))", "25", "0", "-1", "x")
	return map[string][]string{
		"term":   slices.Concat(around("0", "(return 0)", "(pair 0 1)", "(thunk (return 0))", "(get x (return x))"), open, slices.DeleteFunc(noTerms(), fitsNoLine)),
		"source": append(source, slices.DeleteFunc(noSources(), fitsNoLine)...),
		"bit":    append(around("0", "1"), "00", "01", "10", "11", "2", "3", "9", "-0", "-1", "+0", "+1", "0.0", "1.0", "1e0", "0x0", "0b1", "x", "o", "O", "l", "I", "true", "false", "zero", "one", "bit", "b", "(return 0)", "４", "٠", "１", "4294967296", "18446744073709551617"),
		"eval":   append(around("byvalue", "byname"), "0", "1", "value", "name", "by", "by value", "by name", "by-value", "ByValue", "byName", "BYNAME", "byvalues", "bynames", "byvalu", "bynam", "yname", "byneed", "byvalue byname", "byname byvalue", "x", "(get)", "eval"),
		"count":  append(count, slices.DeleteFunc(noTypes(), fitsNoLine)...),
	}
}

// A scriptDice makes scripts by chance, the same ones each time.
type scriptDice struct {
	termDice
	terms, sources, counts []string
}

func newScriptDice(seed uint64) scriptDice {
	return scriptDice{newTermDice(seed), scriptTerms(), scriptSources(), scriptCounts()}
}

func isShort(s string) bool { return len(s) <= 250 }

// scriptTerms returns closed terms of all kinds that have few bytes.
var scriptTerms = sync.OnceValue(func() []string {
	var all []string
	for _, m := range someClosedTerms() {
		all = append(all, m.text())
	}
	for _, w := range closedMeant() {
		all = append(all, w.text)
	}
	for _, w := range equationTerms() {
		if w.once != nil && len(w.term.uses()) == 0 {
			all = append(all, w.text)
		}
	}
	few := slices.Concat(typedAlone(), untyped(), []string{appliedToItself(selfApplied), appliedToItself(growing)})
	for range 10 {
		all = append(all, few...)
	}
	return slices.DeleteFunc(all, func(s string) bool { return !isShort(s) })
})

// scriptSources returns source expressions with a type that have few bytes, some without a translation or with too many evaluations among them.
var scriptSources = sync.OnceValue(func() []string {
	var all []string
	for _, w := range namedSources() {
		all = append(all, w.text)
	}
	few := []string{"(fail (> (> b b) (> b b)))", "(fail (* (> b b) (> b b)))", "(pair (lam x b x) (lam y b y))", "(lam x b (lam y b (lam z b x)))", "(app (lam f (> b b) " + nest(7, thrice, "(app f (get))") + ") (lam x b x))", "(app (lam f (> b b) " + nest(7, thrice, "(fst (pair 1 (app f 0)))") + ") (lam x b x))"}
	for range 30 {
		all = append(all, few...)
	}
	return slices.DeleteFunc(all, func(s string) bool { return len(s) > 600 })
})

// scriptCounts returns types with a known count and without.
var scriptCounts = sync.OnceValue(func() []string {
	var all []string
	for i, w := range allTypes() {
		if w.count != -1 || i%20 == 0 {
			all = append(all, w.text)
		}
	}
	return all
})

// line returns a line that mostly is one of those that are told.
func (d scriptDice) line(bad map[string][]string, others []string) string {
	switch word := d.one(append(loneWords, restWords...)...); {
	case d.IntN(20) == 0:
		return d.one(others...)
	case slices.Contains(loneWords, word):
		return word
	case d.IntN(8) == 0:
		return word + " " + d.one(bad[word]...)
	default:
		return word + " " + map[string]string{"term": d.one(d.terms...), "source": d.one(d.sources...), "bit": d.one("0", "1"), "eval": d.one("byvalue", "byname"), "count": d.one(d.counts...)}[word]
	}
}

// script returns lines that together have at most so many bytes.
func (d scriptDice) script(most int, bad map[string][]string, others []string) string {
	var script string
	for {
		line := d.line(bad, others) + "\n"
		if len(script)+len(line) > most {
			return script
		}
		script += line
	}
}

// A madeScript is a script with its answers and what stands behind it.
type madeScript struct {
	text    string
	answers []string
	behind  scriptRun
}

func newMadeScript(text string) madeScript {
	answers, behind := answersOf(text)
	return madeScript{text, answers, behind}
}

// someScripts returns scripts of all lengths whose last lines end with a newline.
var someScripts = sync.OnceValue(func() []madeScript {
	d, bad, others := newScriptDice(10), badRests(), otherLines()
	var scripts []madeScript
	for _, text := range []string{"", "\n", "\n\n\n", " \n", "show\n", "term (return 1)\nbit 1\n"} {
		scripts = append(scripts, newMadeScript(text))
	}
	for i := range 1500 {
		most := 1 + d.IntN(mostOfScript)
		if i%2 == 0 {
			most = mostOfScript
		}
		scripts = append(scripts, newMadeScript(d.script(most, bad, others)))
	}
	return scripts
})

func TestOracleMakesScripts(t *testing.T) {
	t.Parallel()
	answered, long, changed := map[string]int{}, 0, 0
	for _, w := range someScripts() {
		for i, line := range linesOf(w.text) {
			word, _, _ := strings.Cut(line, " ")
			switch answer := w.answers[i]; {
			case answer == "what":
				answered["what"]++
			case answer == "no":
				answered[word+": no"]++
			case word == "eval":
				answered[line+": told"]++
			default:
				answered[word+": told"]++
			}
		}
		if len(w.text) > mostOfScript {
			t.Fatalf("a script of %d bytes", len(w.text))
		}
		if len(w.text) > mostOfScript-30 {
			long++
		}
		if r := w.behind; r.term != "(return 0)" && r.source != "0" && r.bit != 0 {
			changed++
		}
	}
	t.Log(len(someScripts()), long, changed, answered)
	for _, word := range slices.Concat(loneWords, restWords) {
		told := answered[word+": told"]
		if word == "eval" {
			told = min(answered["eval byvalue: told"], answered["eval byname: told"])
		}
		if told < 600 || word != "show" && answered[word+": no"] < 20 {
			t.Errorf("%s is answered %d times and fails %d times", word, told, answered[word+": no"])
		}
	}
	if answered["what"] < 1500 || long < 250 || changed < 350 {
		t.Errorf("%d lines are other ones, %d scripts long, and %d change all", answered["what"], long, changed)
	}
}
