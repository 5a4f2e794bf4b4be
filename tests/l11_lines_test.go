package tests

import (
	"slices"
	"strings"
	"testing"

	"loop.example/g01200/impl"
)

// step is a line with the output that it has.
type step struct {
	line   string
	output string
}

// runSteps executes lines, the first one on the new desk, and each other one on the desk after the
// one ahead of it.
func runSteps(t *testing.T, steps ...step) impl.Desk {
	t.Helper()
	d := impl.NewDesk()
	for _, s := range steps {
		next, output := checkLine(t, d, s.line)
		if output != s.output {
			t.Errorf("RunLine(%s; %q) has the output %q, want %q", deskText(d), s.line, output, s.output)
		}
		d = next
	}
	return d
}

// made is a line whose output is what TEXT behind its command is.
func made(command, text string) step { return step{command + " " + text, text} }

func checkDesk(t *testing.T, d impl.Desk, first, second string, f ...int64) {
	t.Helper()
	if textByHand(d.First) != first || textByHand(d.Second) != second || !slices.Equal(d.Poly, f) {
		t.Errorf("the desk is %s; want %s, %s, %v", deskText(d), first, second, f)
	}
}

func TestLinesOnTheNewDesk(t *testing.T) {
	d := runSteps(t,
		step{"show", "3|(0 1 2)|()"}, step{"other", "3|(0 1 2)|()"}, step{"passport", "3 / 1 1 1 / 3"}, step{"genus", "0"},
		step{"turns", "3"}, step{"maps", "3"}, step{"alike", "yes"}, step{"order", "3"}, step{"series", "3 1"},
		step{"regular", "yes"}, step{"count", "1"}, step{"word", "()()()"},
		step{"shabat 0 1", "3 / 1 1 1 / 3"}, step{"trees 0 1", "()()()"},
		step{"shabat 5 0", "1 1 1 / 3 / 3"}, step{"trees 5 0", "(()())"},
		step{"shabat 1 2", "error"}, step{"trees 1 2", "error"},
	)
	checkDesk(t, d, "3|(0 1 2)|()", "3|(0 1 2)|()", 0, 0, 0, 1)
}

func TestLinesOfTwoDessins(t *testing.T) {
	d := runSteps(t,
		made("dessin", "3|(0 1 2)|(0 1 2)"), step{"show", "3|(0 1 2)|(0 1 2)"}, step{"other", "3|(0 1 2)|()"},
		step{"genus", "1"}, step{"passport", "3 / 3 / 3"}, step{"alike", "no"}, step{"maps", "0"}, step{"turns", "3"}, step{"word", "error"},
		made("second", "2|()|(0 1)"), step{"show", "3|(0 1 2)|(0 1 2)"}, step{"other", "2|()|(0 1)"}, step{"maps", "0"},
		step{"swap", "2|()|(0 1)"}, step{"show", "2|()|(0 1)"}, step{"other", "3|(0 1 2)|(0 1 2)"}, step{"genus", "0"},
		step{"product 0 1", "6|(0 1 3)(2 4 5)|(0 2 3 5 1 4)"}, step{"maps", "3"}, step{"other", "3|(0 1 2)|(0 1 2)"},
		step{"product 0 3", "error"}, step{"product 6 0", "error"}, step{"block 0 6", "error"}, step{"block 6 0", "error"},
		step{"block 0 5", "3|(0 1 2)|(0 1 2)"}, step{"alike", "yes"}, step{"maps", "3"}, step{"block 0 2", "1|()|()"},
	)
	checkDesk(t, d, "1|()|()", "3|(0 1 2)|(0 1 2)", 0, 0, 0, 1)
	d = runSteps(t,
		made("dessin", "3|(0 1)|(1 2)"), step{"alike", "no"}, step{"canonical", "3|(1 2)|(0 1)"},
		made("second", "3|(0 2)|(0 1)"), step{"alike", "yes"}, step{"swap", "3|(0 2)|(0 1)"}, step{"canonical", "3|(1 2)|(0 1)"},
	)
	checkDesk(t, d, "3|(1 2)|(0 1)", "3|(1 2)|(0 1)", 0, 0, 0, 1)
}

func TestLinesOfChainsAndTrees(t *testing.T) {
	d := runSteps(t,
		step{"star 1", "1|()|()"}, step{"star 4", "4|(0 1 2 3)|()"}, step{"band 4", "4|(0 1 2 3)|(0 3 2 1)"},
		step{"passport", "4 / 4 / 1 1 1 1"}, step{"genus", "0"}, step{"word", "error"},
		step{"chain 4", "4|(1 2)|(0 1)(2 3)"}, step{"passport", "2 1 1 / 2 2 / 4"}, step{"order", "8"}, step{"series", "8 2 1"},
		step{"regular", "no"}, step{"turns", "2"}, step{"maps", "0"}, step{"count", "1"}, step{"word", "(((())))"},
		step{"exchange 1", "4|(0 1)(2 3)|(1 2)"}, step{"word", "((()))()"}, step{"exchange 1", "4|(1 2)|(0 1)(2 3)"},
		step{"block 0 3", "2|()|(0 1)"}, step{"chain 4", "4|(1 2)|(0 1)(2 3)"}, step{"block 0 1", "1|()|()"},
		step{"tree (()())()", "4|(0 3)|(0 1 2)"}, step{"mirror", "4|(0 3)|(0 2 1)"}, step{"word", "((())())"}, step{"count", "1"},
	)
	checkDesk(t, d, "4|(0 3)|(0 2 1)", "3|(0 1 2)|()", 0, 0, 0, 1)
}

func TestLinesOfExchanges(t *testing.T) {
	for _, s := range []step{
		{"exchange 0", "3|(0 1 2)|(0 1)"}, {"exchange 1", "3|(0 1)|(0 1 2)"}, {"exchange 2", "3|(0 1)|(1 2)"},
		{"exchange 3", "3|(1 2)|(0 1 2)"}, {"exchange 4", "3|(0 1 2)|(1 2)"}, {"exchange 5", "3|(1 2)|(0 1)"},
		{"exchange 6", "error"}, {"mirror", "3|(0 2 1)|(0 1)"},
	} {
		runSteps(t, made("dessin", "3|(0 1 2)|(0 1)"), s)
	}
}

func TestLinesOfMonodromyGroups(t *testing.T) {
	for _, group := range knownGroups() {
		order := listText([]int64{group.order})
		regular := map[bool]string{false: "no", true: "yes"}[order == strings.Split(group.text, "|")[0]]
		runSteps(t, made("dessin", group.text), step{"order", order}, step{"series", listText(group.series)}, step{"regular", regular})
	}
}

func TestLinesOfCounts(t *testing.T) {
	runSteps(t,
		made("dessin", "5|(0 1 2 3 4)|(0 1 2 3 4)"), step{"passport", "5 / 5 / 5"}, step{"count", "4"},
		step{"tree (()())((()))", "6|(0 3)(4 5)|(0 1 2)(3 4)"}, step{"passport", "2 2 1 1 / 3 2 1 / 6"}, step{"count", "3"},
		made("dessin", "7|(0 1 2 3 4 5 6)|(0 1)(2 5)"), step{"passport", "7 / 2 2 1 1 1 / 3 3 1"}, step{"count", "2"},
		// Eight darts, and one more.
		step{"star 8", "8|(0 1 2 3 4 5 6 7)|()"}, step{"count", "1"}, step{"star 9", "9|(0 1 2 3 4 5 6 7 8)|()"}, step{"count", "error"},
	)
}

func TestLinesAtTheLimitsOfDarts(t *testing.T) {
	d := runSteps(t,
		step{"star 16", "16|(0 1 2 3 4 5 6 7 8 9 10 11 12 13 14 15)|()"}, step{"star 17", "error"}, step{"star 0", "error"},
		step{"turns", "16"}, step{"order", "16"}, step{"word", strings.Repeat("()", 16)}, step{"block 0 16", "error"},
		step{"block 0 8", "8|(0 1 2 3 4 5 6 7)|()"}, step{"block 0 4", "4|(0 1 2 3)|()"},
		made("second", "4|(0 1 2 3)|(0 1)"), step{"product 3 3", "16|(0 1 2 4)(3 6 8 11)(5 7 9 12)(10 13 14 15)|(1 3)(2 5)(7 10)(11 13)"},
		step{"maps", "1"}, step{"product 0 1", "error"},
		step{"chain 0", "error"}, step{"chain 17", "error"}, step{"band 0", "error"}, step{"band 17", "error"},
		step{"tree " + strings.Repeat("()", 17), "error"}, step{"tree ", "error"}, step{"dessin ", "error"}, step{"second ", "error"},
	)
	checkDesk(t, d, "16|(0 1 2 4)(3 6 8 11)(5 7 9 12)(10 13 14 15)|(1 3)(2 5)(7 10)(11 13)", "4|(0 1 2 3)|(0 1)", 0, 0, 0, 1)
	runSteps(t,
		step{"chain 16", "16|(1 2)(3 4)(5 6)(7 8)(9 10)(11 12)(13 14)|(0 1)(2 3)(4 5)(6 7)(8 9)(10 11)(12 13)(14 15)"},
		step{"order", "32"}, step{"series", "32 8 1"}, step{"turns", "2"}, step{"word", strings.Repeat("(", 16) + strings.Repeat(")", 16)},
		step{"tree " + strings.Repeat("()", 16), "16|(0 1 2 3 4 5 6 7 8 9 10 11 12 13 14 15)|()"}, step{"alike", "no"},
	)
}

func TestLinesOfPolynomials(t *testing.T) {
	d := runSteps(t,
		made("poly", "0 4 10003"), step{"shabat 0 1", "1 1 / 2 / 2"}, step{"trees 0 1", "(())"}, step{"shabat 0 10006", "error"},
		made("poly", "0 0 1"), step{"inner 1 1", "1 2 1"}, step{"inner 0 0 0 1", "1 0 0 2 0 0 1"},
		step{"shabat 0 1", "2 2 2 / 3 1 1 1 / 6"}, step{"trees 0 1", "((())(()))()"},
		made("poly", "0 0 0 40 5 1"), step{"shabat 0 1728", "3 1 1 / 2 2 1 / 5"}, step{"trees 0 1728", "(((())()))"},
		step{"shabat 1728 0", "2 2 1 / 3 1 1 / 5"}, step{"trees 1728 0", "((())(()))"},
		step{"fork 2 1", "0 0 7512 2495"}, step{"shabat 0 1", "2 1 / 2 1 / 3"}, step{"trees 0 1", "((()))"},
		step{"chebyshev 2", "10006 0 2"}, step{"chebyshev 4", "1 0 9999 0 8"},
		step{"shabat 1 10006", "2 1 1 / 2 2 / 4"}, step{"trees 1 10006", "(((())))"},
		step{"shabat 10006 1", "2 2 / 2 1 1 / 4"}, step{"trees 10006 1", "((()))()"},
	)
	checkDesk(t, d, "3|(0 1 2)|()", "3|(0 1 2)|()", 1, 0, 9999, 0, 8)
	// The words of three trees, and of those with the other colours.
	runSteps(t,
		step{"fork 3 1", "0 0 0 1492 8515"}, step{"inner 0 4 10003", "0 0 0 5425 2053 3005 4473 6744 8321"},
		step{"shabat 0 1", "3 3 2 / 2 2 1 1 1 1 / 8"}, step{"trees 0 1", "((((()()))()))() ((((()()))))()() ((((()))()))()()"},
		step{"shabat 1 0", "2 2 1 1 1 1 / 3 3 2 / 8"}, step{"trees 1 0", "(((((()()))()))) (((((()()))))()) (((((()))()))())"},
	)
}

func TestLinesAtTheLimitsOfPolynomials(t *testing.T) {
	seventeen := strings.TrimSpace(strings.Repeat(" 1", 17))
	d := runSteps(t,
		made("poly", "10006"), step{"poly 10007", "error"}, step{"poly 1 10007", "error"}, step{"poly 0", "error"}, step{"poly 1 0", "error"},
		made("poly", seventeen), step{"poly " + seventeen + " 1", "error"}, step{"shabat 0 1", "error"}, step{"inner 0 1", seventeen},
		step{"inner 0 0 1", "error"}, step{"inner 0", "error"}, step{"inner 10007", "error"}, step{"inner 1", "17"},
		step{"inner 0 0 1", "17"}, step{"shabat 0 1", "error"}, step{"trees 0 1", "error"},
		made("poly", "0 0 0 0 1"), step{"inner 0 0 0 0 1", "0 0 0 0 0 0 0 0 0 0 0 0 0 0 0 0 1"}, step{"inner 0 0 0 0 0 1", "error"},
		step{"chebyshev 0", "error"}, step{"chebyshev 17", "error"}, step{"fork 0 1", "error"}, step{"fork 1 0", "error"},
		step{"fork 9 8", "error"}, step{"fork 16 1", "error"}, step{"chebyshev 1", "0 1"}, step{"shabat 3 4", "1 / 1 / 1"}, step{"trees 3 4", "()"},
		step{"shabat 3 3", "error"}, step{"trees 3 3", "error"}, step{"shabat 0 10007", "error"}, step{"shabat 10007 0", "error"},
		step{"fork 4 4", "0 0 0 0 256 8983 1536 8983 256"}, step{"trees 0 1", "((()()()))()()()"},
		// Nine edges are too many for a list of trees.
		step{"fork 5 4", "0 0 0 0 0 8078 7716 8440 7716 8078"}, step{"shabat 0 1", "5 4 / 2 1 1 1 1 1 1 1 / 9"}, step{"trees 0 1", "error"},
	)
	checkDesk(t, d, "3|(0 1 2)|()", "3|(0 1 2)|()", 0, 0, 0, 0, 0, 8078, 7716, 8440, 7716, 8078)
}

// TestThePolynomialZero: a composition can be 0, which has no coefficients to put out.
func TestThePolynomialZero(t *testing.T) {
	d := runSteps(t, made("poly", "10006 1"), step{"inner 1", ""}, step{"inner 5", ""}, step{"shabat 0 1", "error"}, step{"genus", "0"})
	checkDesk(t, d, "3|(0 1 2)|()", "3|(0 1 2)|()")
	runSteps(t, made("poly", "10006 1"), step{"inner 1", ""}, made("poly", "1"), step{"reset", "ok"}, step{"shabat 0 1", "3 / 1 1 1 / 3"})
}

func TestLinesOfTriangleGroups(t *testing.T) {
	runSteps(t,
		step{"triangle 2 3 3", "12"}, step{"triangle 2 3 4", "24"}, step{"triangle 5 2 3", "60"}, step{"triangle 2 2 30", "60"},
		step{"triangle 30 2 2", "60"}, step{"triangle 2 30 2", "60"}, step{"triangle 2 3 6", "error"}, step{"triangle 0 0 0", "error"},
		step{"triangle 3 0 3", "error"}, step{"triangle 2 2 31", "error"}, step{"triangle 1 2 2", "error"}, step{"triangle 2 1 2", "error"},
		// Beside an error there are no relations, and without relations there are subgroups.
		step{"index 2 2 1 2", "error"}, step{"index 31 2 2 2", "error"}, step{"index 0 0 0 0", "error"}, step{"index 0 0 0 6", "error"},
		step{"index 0 0 0 1", "1"}, step{"index 0 0 0 2", "3"}, step{"index 0 0 0 3", "13"}, step{"index 0 0 0 4", "71"}, step{"index 0 0 0 5", "461"},
		step{"index 2 3 0 5", "5"}, step{"index 2 3 4 4", "4"}, step{"index 2 3 5 5", "5"}, step{"index 2 0 0 3", "7"}, step{"index 0 2 0 3", "7"},
	)
}

func TestReset(t *testing.T) {
	for _, d := range sampleDesks(t) {
		next, output := checkLine(t, d, "reset")
		if !sameDesk(next, newByHand()) || output != "ok" {
			t.Errorf("RunLine(%s; reset) = %s; %q", deskText(d), deskText(next), output)
		}
	}
}

// TestAllLines is the first half of promise 11, and with checkLine the first two parts of the
// Guarantee, for the lines of the table on desks of many kinds.
func TestAllLines(t *testing.T) {
	outputs, errors := map[string]int{}, map[string]int{}
	check := func(d impl.Desk, lines []string) {
		t.Helper()
		for _, line := range lines {
			command := strings.Split(line, " ")[0]
			if _, output := checkLine(t, d, line); output == "error" {
				errors[command]++
			} else {
				outputs[command]++
			}
		}
	}
	for _, d := range sampleDesks(t) {
		check(d, slices.Concat(plainLines(), linesOfDessins(), linesOfPolynomials()))
	}
	check(impl.NewDesk(), linesOfGroups())
	for _, line := range wellFormed() {
		command, _, more := strings.Cut(line, " ")
		if outputs[command] < 4 || more && errors[command] < 10 {
			t.Errorf("%s: %d outputs and %d errors", command, outputs[command], errors[command])
		}
	}
}

// wellFormed has a line of each command.
func wellFormed() []string {
	return append(plainLines(),
		"dessin 2|()|(0 1)", "second 2|()|(0 1)", "star 4", "chain 4", "band 4", "exchange 2", "product 1 2", "block 0 1", "tree ()(())",
		"poly 3 1", "chebyshev 2", "fork 1 2", "inner 3 1", "shabat 0 1", "trees 0 1", "triangle 2 3 3", "index 2 3 0 2",
	)
}

func TestLinesWithFaults(t *testing.T) {
	for _, line := range wellFormed() {
		if _, output := checkLine(t, impl.NewDesk(), line); output == "error" {
			t.Errorf("%q has the output error", line)
		}
		for _, bent := range bentLines(line) {
			checkLine(t, impl.NewDesk(), bent)
		}
	}
}

// TestWordsTooManyOrMissing: no command of the table takes an empty word, or one more, but those with
// a LIST, and none goes with one less.
func TestWordsTooManyOrMissing(t *testing.T) {
	wrong := []string{"", " ", "  ", "fly", "fly 3", "0", "3", "error", "ok", "help", "sho", "shows", "show,other", "\xff", "\u200b", "ſhow"}
	for _, line := range wellFormed() {
		name, _, more := strings.Cut(line, " ")
		wrong = append(wrong, " "+line, line+" ", line+" x", line+" 0", strings.ToUpper(line))
		if more {
			wrong = append(wrong, name, name+" ", name+"  ", strings.Replace(line, " ", "  ", 1), line[:strings.LastIndex(line, " ")+1])
		}
		if name != "poly" && name != "inner" {
			wrong = append(wrong, line+" 1")
		}
	}
	wrong = append(wrong, "product 0", "block 0", "fork 1", "shabat 0", "trees 0", "triangle 2 3", "triangle 2", "index 2 3 3", "index 2 3", "index 2")
	for _, d := range sampleDesks(t) {
		for _, line := range wrong {
			next, output := checkLine(t, d, line)
			if output != "error" || !sameDesk(next, d) {
				t.Errorf("RunLine(%s; %q) = %s; %q", deskText(d), line, deskText(next), output)
			}
		}
	}
}

func TestNumbersOfLines(t *testing.T) {
	numbers := []string{
		"03", "003", "+3", "-3", "--3", "3.0", "3.", ".3", "3e0", "0x3", "0b11", "3_0", "1_6", "three", "x", "3x", "x3", "3,", "(3)", "\t3", "3\t", "3\n", "3\r",
		"\x003", "3\x00", "\u0663", "\uff13", "\u00b3", "00", "-0", "+0", "1000000000", "1000000003", "0000000003", "000000003", "4294967299",
		"18446744073709551619", "9223372036854775807", "-9223372036854775808", "340282366920938463463374607431768211459", strings.Repeat("9", 5000),
	}
	for _, number := range numbers {
		for _, line := range []string{"star #", "chain #", "band #", "exchange #", "product # 0", "product 0 #", "block # 0", "block 0 #", "poly #", "poly 1 #", "poly # 1",
			"chebyshev #", "fork # 1", "fork 1 #", "inner #", "inner # 1", "inner 1 #", "shabat # 0", "shabat 0 #", "trees # 0", "trees 0 #",
			"triangle # 2 2", "triangle 2 # 2", "triangle 2 2 #", "index # 2 2 2", "index 2 # 2 2", "index 2 2 # 2", "index 2 2 2 #"} {
			given := strings.Replace(line, "#", number, 1)
			d := impl.NewDesk()
			if next, output := impl.RunLine(d, given); output != "error" || !sameDesk(next, d) {
				t.Errorf("RunLine(new; %q) = %s; %q", given, deskText(next), output)
			}
		}
	}
	runSteps(t, step{"exchange 0", "3|(0 1 2)|()"}, step{"star 10", "10|(0 1 2 3 4 5 6 7 8 9)|()"}, step{"triangle 999999999 2 2", "error"}, step{"poly 0 10", "0 10"})
}

func TestTextsOfLines(t *testing.T) {
	for _, line := range []string{
		"dessin 3|(0 1 2)", "dessin 3|(0 1 2)|() ", "dessin  3|(0 1 2)|()", "dessin 3 |(0 1 2)|()", "dessin 3|(1 2 0)|()", "dessin 3|(0 1 2)|(2)", "dessin 03|(0 1 2)|()",
		"dessin 2|()|()", "dessin 17|()|()", "dessin 3|(0  1 2)|()", "dessin show", "second 3|(0 1 2)|(0 3)", "second 3|(0 1 2)|()\n", "second ()", "second 2|()|()",
		"tree (", "tree )(", "tree () ()", "tree  ()", "tree ()x", "tree () ", "tree 3|(0 1 2)|()", "tree ()\n", "tree []",
	} {
		for _, d := range sampleDesks(t) {
			if next, output := checkLine(t, d, line); output != "error" || !sameDesk(next, d) {
				t.Errorf("RunLine(%s; %q) = %s; %q", deskText(d), line, deskText(next), output)
			}
		}
	}
	runSteps(t, made("dessin", "16|(0 1 2 3 4 5 6 7 8 9 10 11 12 13 14)|(0 15)"), made("second", "1|()|()"), step{"tree ((()))", "3|(1 2)|(0 1)"})
}

// TestLongLines: a line alone has no limit.
func TestLongLines(t *testing.T) {
	long := strings.Repeat("x", 100000)
	for _, line := range []string{
		long, "show " + long, "dessin " + long, "tree " + strings.Repeat("(", 100000), "poly" + strings.Repeat(" 1", 100000),
		"inner" + strings.Repeat(" 0", 100000), "star" + strings.Repeat(" ", 100000), "star " + strings.Repeat("0", 100000) + "3", strings.Repeat("show ", 100000),
	} {
		d := impl.NewDesk()
		if next, output := impl.RunLine(d, line); output != "error" || !sameDesk(next, d) {
			t.Errorf("RunLine(new; %.20q..) = %s; %q", line, deskText(next), output)
		}
	}
}

func TestLinesOnOthersThanDesks(t *testing.T) {
	for name, d := range notDesks() {
		for _, line := range []string{"genus", "reset", "star 3", "show", "other", "swap", "poly 1", "dessin 1|()|()", "second 1|()|()", "triangle 2 3 3", "fly", ""} {
			if next, output := impl.RunLine(d, line); !sameDesk(next, impl.Desk{}) || output != "" {
				t.Errorf("%s: RunLine(%q) = %v; %q", name, line, next, output)
			}
		}
	}
}

func TestDesksAfterLinesAreNewMemory(t *testing.T) {
	for _, d := range sampleDesks(t) {
		for _, line := range append(wellFormed(), "fly", "star 0", "inner 0 0 0 0 0 0 0 0 0 1") {
			checkOwnItems(t, "RunLine with "+line, func() []int64 {
				next, _ := impl.RunLine(d, line)
				return next.Poly
			}, 77)
		}
	}
}
