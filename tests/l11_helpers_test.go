package tests

import (
	"slices"
	"strconv"
	"strings"
	"testing"

	"loop.example/g01200/impl"
)

// noLine is the code of a line that is another one than those which a function knows.
const noLine = int64(-1)

func newByHand() impl.Desk {
	star := impl.Dessin{Darts: 3, Black: impl.Places{1, 2, 0}, White: impl.Places{0, 1, 2}}
	return impl.Desk{First: star, Second: star, Poly: []int64{0, 0, 0, 1}}
}

func sameDesk(a, b impl.Desk) bool {
	return a.First == b.First && a.Second == b.Second && slices.Equal(a.Poly, b.Poly)
}

func deskText(d impl.Desk) string {
	return textByHand(d.First) + ", " + textByHand(d.Second) + ", {" + listText(d.Poly) + "}"
}

func listText(list []int64) string {
	text := ""
	for i, x := range list {
		if i > 0 {
			text += " "
		}
		text += strconv.Itoa(int(x))
	}
	return text
}

// blanksApart has one word more than the text has blanks.
func blanksApart(text string) []string {
	words := []string{""}
	for i := range len(text) {
		if text[i] == ' ' {
			words = append(words, "")
		} else {
			words[len(words)-1] += text[i : i+1]
		}
	}
	return words
}

// lineNumber is the number that a word of a line stands for.
func lineNumber(word string) (int64, bool) {
	if len(word) < 1 || len(word) > 9 || len(word) > 1 && word[0] == '0' {
		return 0, false
	}
	number := int64(0)
	for i := range len(word) {
		if word[i] < '0' || word[i] > '9' {
			return 0, false
		}
		number = 10*number + int64(word[i]-'0')
	}
	return number, true
}

// parts are what a line consists of. The shape has the command with # for each number behind it, or
// TEXT, or LIST for one number or more.
type parts struct {
	shape string
	text  string
	n     []int64
}

func partsOf(line string) parts {
	words := blanksApart(line)
	p := parts{shape: words[0]}
	if len(words) == 1 {
		return p
	}
	switch words[0] {
	case "dessin", "second", "tree":
		return parts{shape: words[0] + " TEXT", text: line[len(words[0])+1:]}
	}
	for _, word := range words[1:] {
		number, ok := lineNumber(word)
		if !ok {
			return parts{shape: "no number"}
		}
		p.shape += " #"
		p.n = append(p.n, number)
	}
	if words[0] == "poly" || words[0] == "inner" {
		p.shape = words[0] + " LIST"
	}
	return p
}

// firstByHand is what D becomes, which is then put out.
func firstByHand(d impl.Desk, p parts) (impl.Dessin, int64) {
	switch p.shape {
	case "dessin TEXT":
		return impl.ParseDessin(p.text)
	case "swap":
		return d.Second, impl.ErrNone
	case "star #":
		return impl.StarDessin(p.n[0])
	case "chain #":
		return impl.ChainDessin(p.n[0])
	case "band #":
		return impl.BandDessin(p.n[0])
	case "canonical":
		return impl.CanonicalDessin(d.First)
	case "exchange #":
		return impl.ExchangeOf(d.First, p.n[0])
	case "mirror":
		return impl.MirrorOf(d.First)
	case "product # #":
		return impl.ProductAt(d.First, d.Second, p.n[0], p.n[1])
	case "block # #":
		block, code := impl.BlockOf(d.First, p.n[0], p.n[1])
		if code != impl.ErrNone {
			return impl.Dessin{}, code
		}
		return impl.QuotientByBlock(d.First, block)
	case "tree TEXT":
		return impl.TreeOfWord(p.text)
	}
	return impl.Dessin{}, noLine
}

// polyOfLine is what P becomes, which is then put out.
func polyOfLine(d impl.Desk, p parts) ([]int64, int64) {
	switch p.shape {
	case "poly LIST":
		if impl.IsPolynomial(p.n) {
			return p.n, impl.ErrNone
		}
	case "chebyshev #":
		return impl.ChainPolynomial(p.n[0])
	case "fork # #":
		return impl.ForkPolynomial(p.n[0], p.n[1])
	case "inner LIST":
		return impl.ComposePolynomials(d.Poly, p.n)
	}
	return nil, noLine
}

// listByHand is the list of numbers, or the one number, that is put out.
func listByHand(d impl.Desk, p parts) ([]int64, int64) {
	one := func(number int64, code int64) ([]int64, int64) { return []int64{number}, code }
	switch p.shape {
	case "genus":
		return one(impl.GenusOf(d.First))
	case "turns":
		turns, code := impl.AutomorphismsOf(d.First)
		return one(int64(len(turns)), code)
	case "maps":
		morphisms, code := impl.MorphismsOf(d.First, d.Second)
		return one(int64(len(morphisms)), code)
	case "order":
		return one(impl.GroupOrder(d.First))
	case "series":
		return impl.DerivedSeries(d.First)
	case "count":
		passport, _ := impl.PassportOf(d.First)
		dessins, code := impl.DessinsOf(passport)
		return one(int64(len(dessins)), code)
	case "triangle # # #", "index # # # #":
		relations, code := impl.TriangleRelations(p.n[0], p.n[1], p.n[2])
		if code != impl.ErrNone {
			return nil, code
		}
		if len(p.n) == 3 {
			return one(impl.GroupOrderOf(relations))
		}
		return one(impl.CountOfIndex(relations, p.n[3]))
	}
	return nil, noLine
}

// wordsOfLine are the words, with other things between them, that are put out.
func wordsOfLine(d impl.Desk, p parts) ([]string, string, int64) {
	var passport [][]int64
	code := noLine
	switch p.shape {
	case "passport":
		passport, code = impl.PassportOf(d.First)
	case "shabat # #":
		passport, code = impl.PassportOfShabat(d.Poly, p.n[0], p.n[1])
	case "trees # #":
		passport, code = impl.PassportOfShabat(d.Poly, p.n[0], p.n[1])
		if code != impl.ErrNone {
			return nil, "", code
		}
		words, code := impl.TreesOfTypes(passport[0], passport[1])
		return words, " ", code
	case "word":
		word, code := impl.CanonicalWord(d.First)
		return []string{word}, " ", code
	}
	var words []string
	for _, list := range passport {
		words = append(words, listText(list))
	}
	return words, " / ", code
}

// answerByHand is the answer that is put out as yes or no.
func answerByHand(d impl.Desk, p parts) (bool, int64) {
	switch p.shape {
	case "alike":
		return impl.AreAlike(d.First, d.Second)
	case "regular":
		return impl.IsRegular(d.First)
	}
	return false, noLine
}

// lineByHand executes a line as the table of the chapter says.
func lineByHand(d impl.Desk, line string) (impl.Desk, string) {
	p := partsOf(line)
	switch p.shape {
	case "reset":
		return newByHand(), "ok"
	case "show":
		return d, textByHand(d.First)
	case "other":
		return d, textByHand(d.Second)
	case "second TEXT":
		if e, code := impl.ParseDessin(p.text); code == impl.ErrNone {
			return impl.Desk{First: d.First, Second: e, Poly: d.Poly}, textByHand(e)
		}
	}
	if first, code := firstByHand(d, p); code == impl.ErrNone {
		second := d.Second
		if p.shape == "swap" {
			second = d.First
		}
		return impl.Desk{First: first, Second: second, Poly: d.Poly}, textByHand(first)
	}
	if f, code := polyOfLine(d, p); code == impl.ErrNone {
		return impl.Desk{First: d.First, Second: d.Second, Poly: f}, listText(f)
	}
	if list, code := listByHand(d, p); code == impl.ErrNone {
		return d, listText(list)
	}
	if words, between, code := wordsOfLine(d, p); code == impl.ErrNone {
		return d, strings.Join(words, between)
	}
	if answer, code := answerByHand(d, p); code == impl.ErrNone {
		return d, map[bool]string{false: "no", true: "yes"}[answer]
	}
	return d, "error"
}

// consoleByHand goes through a text byte by byte.
func consoleByHand(text string) (impl.Desk, string, bool) {
	if len(text) > 3000 {
		return impl.Desk{}, "", false
	}
	d, outputs, line, lines := newByHand(), "", "", 0
	for i := range len(text) {
		end := text[i] == 10
		if !end {
			line += text[i : i+1]
		}
		if !end && i < len(text)-1 {
			continue
		}
		lines++
		if line != "" {
			next, output := lineByHand(d, line)
			d, outputs, line = next, outputs+output+"\n", ""
		}
	}
	if lines > 40 {
		return impl.Desk{}, "", false
	}
	return d, outputs, true
}

// checkLine executes a line on a desk, and fails if this is not as by hand, if an error changes
// anything, or if the desk after it is none, or no new memory.
func checkLine(t *testing.T, d impl.Desk, line string) (impl.Desk, string) {
	t.Helper()
	want, wanted := lineByHand(d, line)
	given := impl.Desk{First: d.First, Second: d.Second, Poly: withSpare(d.Poly)}
	next, output := impl.RunLine(given, line)
	if !sameDesk(next, want) || output != wanted {
		t.Fatalf("RunLine(%s; %q) = %s; %q, want %s; %q", deskText(d), line, deskText(next), output, deskText(want), wanted)
	}
	if !impl.IsDesk(next) || output == "error" && !sameDesk(next, d) {
		t.Fatalf("RunLine(%s; %q) = %s; %q", deskText(d), line, deskText(next), output)
	}
	result := impl.Desk{First: next.First, Second: next.Second, Poly: slices.Clone(next.Poly)}
	for i := range next.Poly[:cap(next.Poly)] {
		next.Poly[:cap(next.Poly)][i] = 99
	}
	checkSpareKept(t, "RunLine", given.Poly, d.Poly)
	return result, output
}

// plainLines are the commands without anything behind them.
func plainLines() []string {
	return []string{
		"swap", "canonical", "mirror", "show", "other", "passport", "genus", "turns", "maps", "alike", "order", "series", "regular",
		"count", "word", "reset",
	}
}

// linesOfDessins make another dessin, with numbers and texts at their limits and beyond them.
func linesOfDessins() []string {
	var lines []string
	for n := range 18 {
		for _, name := range []string{"star", "chain", "band"} {
			lines = append(lines, name+" "+strconv.Itoa(n))
		}
	}
	for k := range 8 {
		lines = append(lines, "exchange "+strconv.Itoa(k))
	}
	for x := range 6 {
		for y := range 6 {
			both := strconv.Itoa(x) + " " + strconv.Itoa(y)
			lines = append(lines, "product "+both, "block "+both)
		}
	}
	for n := range 6 {
		for _, word := range wordsByHand(n) {
			lines = append(lines, "tree "+word, "tree "+word+")", "tree ("+word)
		}
	}
	for _, word := range longWords()[:60] {
		lines = append(lines, "tree "+word)
	}
	for i, d := range sampleDessins() {
		if i%29 == 0 {
			text := textByHand(d)
			lines = append(lines, "dessin "+text, "second "+text, "dessin "+text[1:], "second "+text+"(0 1)")
		}
	}
	return append(lines, "block 0 8", "block 0 15", "block 15 1", "product 15 15", "tree "+strings.Repeat("()", 17))
}

// linesOfPolynomials set polynomials, and tell of them.
func linesOfPolynomials() []string {
	var lines []string
	for n := range 18 {
		lines = append(lines, "chebyshev "+strconv.Itoa(n))
		for m := range 18 {
			if m < 4 || m+n > 14 && m+n < 19 {
				lines = append(lines, "fork "+strconv.Itoa(m)+" "+strconv.Itoa(n))
			}
		}
	}
	for i, f := range append(samplePolynomials(), notPolynomials()...) {
		if i%2 == 0 || len(f) < 3 {
			lines = append(lines, "poly "+listText(f), "inner "+listText(f))
		}
	}
	values := []string{"0", "1", "2", "3", "1728", "10006", "10007", "999999999"}
	for _, a := range values {
		for _, b := range values {
			lines = append(lines, "shabat "+a+" "+b, "trees "+a+" "+b)
		}
	}
	return lines
}

// linesOfGroups do not ask the desk.
func linesOfGroups() []string {
	var lines []string
	numbers := []string{"0", "1", "2", "3", "5", "30", "31"}
	for _, a := range numbers {
		for _, b := range numbers {
			for _, c := range numbers {
				three := a + " " + b + " " + c
				lines = append(lines, "triangle "+three)
				for n := range 7 {
					if n < 3 || n > 4 || a == "2" {
						lines = append(lines, "index "+three+" "+strconv.Itoa(n))
					}
				}
			}
		}
	}
	return lines
}

// bentLines are what becomes of a line by small faults, which may be none in a TEXT or a LIST.
func bentLines(line string) []string {
	words := strings.Split(line, " ")
	bent := []string{
		" " + line, line + " ", line + "  ", line + " 0", line + " 1", line + " x", line + "x", "x" + line, line + "\n", "\n" + line,
		line + "\r", line + "\x00", strings.ToUpper(line), strings.ToUpper(line[:1]) + line[1:], line[1:], line[:len(line)-1],
		strings.ReplaceAll(line, " ", "\t"), strings.ReplaceAll(line, " ", "  "), strings.ReplaceAll(line, " ", "\u00a0"),
		strings.ReplaceAll(line, " ", ""), strings.ReplaceAll(line, " ", ","), line + " " + line,
	}
	for i := range words {
		bent = append(bent, strings.Join(slices.Delete(slices.Clone(words), i, i+1), " "))
		bent = append(bent, strings.Join(slices.Insert(slices.Clone(words), i, ""), " "))
		for _, ahead := range []string{"0", "00", "+", "-", "0x", "1000000000"} {
			worse := slices.Clone(words)
			worse[i] = ahead + worse[i]
			bent = append(bent, strings.Join(worse, " "))
		}
		for _, behind := range []string{".0", "e0", "_0", ",", "000000000"} {
			worse := slices.Clone(words)
			worse[i] += behind
			bent = append(bent, strings.Join(worse, " "))
		}
	}
	return bent
}

// sampleDesks have dessins of all kinds and the polynomials of all kinds.
func sampleDesks(t *testing.T) []impl.Desk {
	t.Helper()
	texts := []string{
		"1|()|()", "2|(0 1)|(0 1)", "3|(0 1 2)|(0 1 2)", "4|(1 2)|(0 1)(2 3)", "4|(0 3)|(0 1 2)", "5|(0 1 2 3 4)|(0 1 2)",
		"6|(0 1 2 3 4 5)|(0 2 4)(1 3 5)", "7|(0 1 2 3 4 5 6)|(0 1)(2 5)", "8|(0 1 2 3)(4 5 6 7)|(0 4 2 6)(1 7 3 5)",
		"9|(1 2 3 5 7 4)(6 8)|(0 1 3 2 4 6)(5 7 8)", "12|(1 2)(3 5 4 6 8 11)(7 9)|(0 1 3)(2 4 7 10 8 9)(5 6)",
		"16|(0 1)(2 4)(3 6 11 8)(5 9 13 15)(7 12 10 14)|(0 2 5 10 14 15 13 1 3 7)(4 8 12 9 11 6)",
	}
	polynomials := [][]int64{
		nil, {5}, {0, 1}, mustFork(t, 1, 1), mustChain(t, 3), mustFork(t, 2, 2), mustStar(t, 5), poly(0, 0, 0, 40, 5, 1), {1, 2, 3, 4, 5},
		mustChain(t, 8), mustFork(t, 5, 4), ones(17),
	}
	desks := []impl.Desk{newByHand()}
	for i, text := range texts {
		first, second := mustParse(t, text), mustParse(t, texts[i*5%len(texts)])
		desks = append(desks, impl.Desk{First: first, Second: second, Poly: polynomials[i]})
	}
	return desks
}

// notDesks are named by what is wrong with them.
func notDesks() map[string]impl.Desk {
	desks := map[string]impl.Desk{"the zero value": {}}
	good := newByHand()
	for name, d := range notDessins() {
		desks["the first one: "+name] = impl.Desk{First: d, Second: good.Second, Poly: good.Poly}
		desks["the second one: "+name] = impl.Desk{First: good.First, Second: d, Poly: good.Poly}
		desks["both: "+name] = impl.Desk{First: d, Second: d, Poly: good.Poly}
	}
	for _, f := range notPolynomials() {
		desks["the polynomial: "+listText(f)] = impl.Desk{First: good.First, Second: good.Second, Poly: f}
	}
	return desks
}
