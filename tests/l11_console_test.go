package tests

import (
	"slices"
	"strconv"
	"strings"
	"sync"
	"testing"

	"loop.example/g01200/impl"
)

func TestNewDesk(t *testing.T) {
	d := impl.NewDesk()
	if !sameDesk(d, newByHand()) || !impl.IsDesk(d) {
		t.Errorf("NewDesk() = %s", deskText(d))
	}
	star, _ := impl.StarDessin(3)
	poly, _ := impl.StarPolynomial(3)
	if d.First != star || d.Second != star || !slices.Equal(d.Poly, poly) {
		t.Errorf("NewDesk() = %s", deskText(d))
	}
	checkOwnItems(t, "NewDesk", func() []int64 { return impl.NewDesk().Poly }, 77)
}

func TestIsDesk(t *testing.T) {
	desks := sampleDesks(t)
	for _, d := range desks {
		for _, f := range [][]int64{d.Poly, nil, {}, {1}, ones(17), {0, impl.FieldPrime - 1}} {
			if !impl.IsDesk(impl.Desk{First: d.First, Second: d.Second, Poly: f}) {
				t.Errorf("IsDesk(%s with %v) is false", deskText(d), f)
			}
		}
	}
	for name, d := range notDesks() {
		given := impl.Desk{First: d.First, Second: d.Second, Poly: withSpare(d.Poly)}
		if impl.IsDesk(given) {
			t.Errorf("%s: IsDesk is true", name)
		}
		checkSpareKept(t, "IsDesk", given.Poly, d.Poly)
	}
}

// checkConsole fails if a text has not the outputs and the desk that it has by hand.
func checkConsole(t *testing.T, text string) bool {
	t.Helper()
	want, outputs, wanted := consoleByHand(text)
	if found := impl.Console(text); found != outputs {
		t.Errorf("Console(%.200q) = %q, want %q", text, found, outputs)
	}
	d, ok := impl.DeskAfter(text)
	if !sameDesk(d, want) || ok != wanted || ok && !impl.IsDesk(d) {
		t.Errorf("DeskAfter(%.200q) = %s, %v, want %s, %v", text, deskText(d), ok, deskText(want), wanted)
	}
	return ok
}

func TestKnownConsoles(t *testing.T) {
	cases := map[string]string{
		"":                                 "",
		"genus":                            "0\n",
		"genus\n":                          "0\n",
		"\n\ngenus\n\n\nturns\n\n":         "0\n3\n",
		"genus\nturns":                     "0\n3\n",
		" ":                                "error\n",
		"genus\r\nturns\r\n":               "error\nerror\n",
		"genus\n \nturns":                  "0\nerror\n3\n",
		"genus \n genus\n":                 "error\nerror\n",
		"swap\nfly\nshow":                  "3|(0 1 2)|()\nerror\n3|(0 1 2)|()\n",
		"band 2\nstar 20\nshow\nother":     "2|(0 1)|(0 1)\nerror\n2|(0 1)|(0 1)\n3|(0 1 2)|()\n",
		"poly 10006 1\ninner 1\nturns":     "10006 1\n\n3\n",
		"chain 2\nreset\nshow":             "2|()|(0 1)\nok\n3|(0 1 2)|()\n",
		"chain 3\nword\nexchange 1\nword":  "3|(1 2)|(0 1)\n((()))\n3|(0 1)|(1 2)\n((()))\n",
		"fork 1 1\ninner 0 4 10003\ngenus": "0 4 10003\n0 16 9927 128 9943\n0\n",
	}
	for text, want := range cases {
		if outputs := impl.Console(text); outputs != want {
			t.Errorf("Console(%q) = %q, want %q", text, outputs, want)
		}
		checkConsole(t, text)
	}
}

// randomText has some lines with all kinds of faults between, and empty lines.
func (s *source) randomText(lines []string, count int) string {
	text := ""
	for range count {
		line := lines[s.below(len(lines))]
		switch s.below(8) {
		case 0:
			bent := bentLines(line)
			line = bent[s.below(len(bent))]
		case 1:
			line = ""
		}
		text += line + "\n"
	}
	if s.below(2) == 0 {
		text = strings.TrimSuffix(text, "\n")
	}
	return text
}

// TestConsolesOfManyLines has texts within the limits and beyond them.
func TestConsolesOfManyLines(t *testing.T) {
	lines := slices.Concat(wellFormed(), linesOfDessins(), wellFormed(), linesOfPolynomials(), wellFormed(), []string{"triangle 2 3 4", "index 2 0 0 3"})
	s := source(11)
	kept := map[bool]int{}
	for count := range 45 {
		for range 12 {
			kept[checkConsole(t, s.randomText(lines, count))]++
		}
	}
	if kept[true] < 400 || kept[false] < 40 {
		t.Errorf("texts within the limits and beyond them: %v", kept)
	}
}

// TestConsoleJoinsOutputs is promise 11, and the Guarantee: the lines of a text lead from the new
// desk to the last one, through desks alone, and the console has their outputs.
func TestConsoleJoinsOutputs(t *testing.T) {
	lines := slices.Concat(wellFormed(), wellFormed(), linesOfDessins(), linesOfPolynomials())
	s := source(111)
	for range 300 {
		text := ""
		d, outputs := impl.NewDesk(), ""
		for range 1 + s.below(40) {
			line := lines[s.below(len(lines))]
			next, output := impl.RunLine(d, line)
			if !impl.IsDesk(next) {
				t.Fatalf("RunLine(%s; %q) = %s; %q", deskText(d), line, deskText(next), output)
			}
			if output == "error" && !sameDesk(next, d) {
				t.Fatalf("RunLine(%s; %q) changes the desk to %s", deskText(d), line, deskText(next))
			}
			d, text, outputs = next, text+line+"\n", outputs+output+"\n"
		}
		if len(text) > impl.MaxConsole {
			continue
		}
		if found := impl.Console(text); found != outputs {
			t.Errorf("Console(%q) = %q, want %q", text, found, outputs)
		}
		if last, ok := impl.DeskAfter(text); !ok || !sameDesk(last, d) {
			t.Errorf("DeskAfter(%q) = %s, %v, want %s", text, deskText(last), ok, deskText(d))
		}
	}
}

// TestWrongLinesCanBeLeftOut: those with the output error change nothing for the others.
func TestWrongLinesCanBeLeftOut(t *testing.T) {
	s := source(1111)
	for range 200 {
		text := s.randomText(append(wellFormed(), "star 0", "word", "chain 16", "fly", "exchange 7", "inner 0 0 0 0 0 1"), 1+s.below(35))
		good, outputs := "", ""
		d := impl.NewDesk()
		for _, line := range strings.Split(text, "\n") {
			next, output := impl.RunLine(d, line)
			if line != "" && output != "error" {
				good, outputs = good+line+"\n", outputs+output+"\n"
			}
			d = next
		}
		all, allKept := impl.DeskAfter(text)
		some, someKept := impl.DeskAfter(good)
		if !allKept || !someKept || !sameDesk(all, some) || impl.Console(good) != outputs {
			t.Errorf("%q leads to %s, %q to %s", text, deskText(all), good, deskText(some))
		}
	}
}

// checkRefused fails if a text is not refused because of its limits.
func checkRefused(t *testing.T, name, text string) {
	t.Helper()
	if outputs := impl.Console(text); outputs != "" {
		t.Errorf("%s: Console has %q", name, outputs)
	}
	if d, ok := impl.DeskAfter(text); ok || !sameDesk(d, impl.Desk{}) {
		t.Errorf("%s: DeskAfter = %v, %v", name, d, ok)
	}
	checkConsole(t, text)
}

func checkTaken(t *testing.T, name, text, want string) {
	t.Helper()
	if outputs := impl.Console(text); outputs != want {
		t.Errorf("%s: Console has %q, want %q", name, outputs, want)
	}
	if d, ok := impl.DeskAfter(text); !ok || !impl.IsDesk(d) {
		t.Errorf("%s: DeskAfter = %v, %v", name, d, ok)
	}
	checkConsole(t, text)
}

func TestLimitOfLines(t *testing.T) {
	forty, outputs := strings.Repeat("genus\n", 40), strings.Repeat("0\n", 40)
	checkTaken(t, "40 lines", forty, outputs)
	checkTaken(t, "40 lines, the last one without its end", strings.TrimSuffix(forty, "\n"), outputs)
	checkTaken(t, "40 empty lines", strings.Repeat("\n", 40), "")
	checkTaken(t, "39 empty lines and one", strings.Repeat("\n", 39)+"genus", "0\n")
	checkTaken(t, "39 empty lines and one with its end", strings.Repeat("\n", 39)+"genus\n", "0\n")
	checkTaken(t, "39 empty lines behind one", "genus\n"+strings.Repeat("\n", 39), "0\n")
	checkRefused(t, "41 lines", forty+"genus\n")
	checkRefused(t, "41 lines, the last one without its end", forty+"genus")
	checkRefused(t, "40 lines and an empty one", forty+"\n")
	checkRefused(t, "an empty line and 40", "\n"+forty)
	checkRefused(t, "41 empty lines", strings.Repeat("\n", 41))
	checkRefused(t, "40 empty lines and one", strings.Repeat("\n", 40)+"genus")
	checkRefused(t, "40 empty lines behind one", "genus\n"+strings.Repeat("\n", 40))
	checkRefused(t, "3000 empty lines", strings.Repeat("\n", 3000))
}

func TestLimitOfBytes(t *testing.T) {
	long := strings.Repeat("x", 2994)
	checkTaken(t, "3000 bytes", "genus\n"+long, "0\nerror\n")
	checkTaken(t, "3000 bytes with the end", "genus\n"+long[1:]+"\n", "0\nerror\n")
	checkTaken(t, "3000 bytes ahead", long+"\ngenus", "error\n0\n")
	checkTaken(t, "3000 bytes of blanks", strings.Repeat(" ", 3000), "error\n")
	checkTaken(t, "1500 letters of two bytes", strings.Repeat("\u00e9", 1500), "error\n")
	checkTaken(t, "a number of 2995 digits", "star "+strings.Repeat("0", 2994)+"3", "error\n")
	checkRefused(t, "3001 bytes", "genus\n"+long+"x")
	checkRefused(t, "3000 bytes and an end", "genus\n"+long+"\n")
	checkRefused(t, "3001 bytes with a wrong line alone", strings.Repeat("x", 3001))
	checkRefused(t, "1501 letters of two bytes", strings.Repeat("\u00e9", 1501))
	checkRefused(t, "a million bytes", strings.Repeat("genus ", 200000))
	checkRefused(t, "both limits", strings.Repeat("genus\n", 1000))
}

func TestConsolesOfAnyBytes(t *testing.T) {
	s := source(11111)
	letters := []string{"star ", "poly ", "tree ", "(", ")", "0", "1", "2", "9", " ", "\n", "\r", "\x00", "\xff", "|", "dessin ", "genus", "swap\n", "-", "\u2028"}
	for range 3000 {
		text := ""
		for range s.below(30) {
			text += letters[s.below(len(letters))]
		}
		checkConsole(t, text)
	}
}

func TestDeskAfterIsNewMemory(t *testing.T) {
	for _, text := range []string{"", "genus", "poly 1 2 3\nfly", "inner 1 1", "reset"} {
		checkOwnItems(t, "DeskAfter", func() []int64 {
			d, _ := impl.DeskAfter(text)
			return d.Poly
		}, 77)
	}
}

// TestConsolesAtTheSameTime: nothing is kept from one to the other.
func TestConsolesAtTheSameTime(t *testing.T) {
	var group sync.WaitGroup
	for n := range 16 {
		group.Go(func() {
			number := strconv.Itoa(n + 1)
			text := "star " + number + "\nchebyshev " + number + "\nturns\nword\nother"
			for range 20 {
				checkConsole(t, text)
			}
		})
	}
	group.Wait()
}
