package tests

import (
	"math"
	"slices"
	"strconv"
	"strings"
	"testing"

	"loop.example/g01200/impl"
)

// notDessins: structs that are no dessins.
func notDessins() map[string]impl.Dessin {
	bad := map[string]impl.Dessin{
		"the zero value":           {},
		"two pieces":               {Darts: 2, Black: staying(2), White: staying(2)},
		"pieces of two":            {Darts: 4, Black: impl.Places{1, 0, 3, 2}, White: impl.Places{1, 0, 3, 2}},
		"the last dart alone":      {Darts: 4, Black: impl.Places{1, 2, 0, 3}, White: staying(4)},
		"the first dart alone":     {Darts: 4, Black: impl.Places{0, 2, 3, 1}, White: impl.Places{0, 3, 2, 1}},
		"sixteen pieces":           {Darts: 16, Black: staying(16), White: staying(16)},
		"fewer darts than entries": {Darts: 2, Black: impl.Places{1, 2, 0}, White: impl.Places{1, 0}},
		"more darts than entries":  {Darts: 4, Black: impl.Places{1, 2, 0}, White: staying(4)},
	}
	round := impl.Places{1, 2, 0}
	for name, c := range notPermutations() {
		bad["both: "+name] = impl.Dessin{Darts: c.n, Black: c.p, White: c.p}
		if c.n >= 1 && c.n <= 16 {
			good := samplePlaces(c.n)[len(samplePlaces(c.n))-1]
			bad["Black: "+name] = impl.Dessin{Darts: c.n, Black: c.p, White: good}
			bad["White: "+name] = impl.Dessin{Darts: c.n, Black: good, White: c.p}
		}
	}
	for _, n := range []int64{0, -3, 17, 259, 1<<32 + 3, math.MinInt64, math.MaxInt64} {
		bad["Darts of "+strconv.FormatInt(n, 10)] = impl.Dessin{Darts: n, Black: round, White: round}
	}
	bad["not 0 behind Black"] = impl.Dessin{Darts: 3, Black: impl.Places{1, 2, 0, 15: 1}, White: staying(3)}
	bad["not 0 behind White"] = impl.Dessin{Darts: 3, Black: round, White: impl.Places{0, 1, 2, 3}}
	return bad
}

// faceByHand looks for what leads back what White makes of what Black makes of each dart.
func faceByHand(d impl.Dessin) impl.Places {
	var p impl.Places
	for x := range d.Darts {
		for y := range d.Darts {
			if int64(d.White[d.Black[y]]) == x {
				p[x] = byte(y)
			}
		}
	}
	return p
}

func eulerByHand(d impl.Dessin) int64 {
	vertices := len(cyclesByHand(d.Black, d.Darts)) + len(cyclesByHand(d.White, d.Darts))
	return int64(vertices+len(cyclesByHand(faceByHand(d), d.Darts))) - d.Darts
}

func placesTextByHand(p impl.Places, n int64) string {
	text := ""
	for _, cycle := range cyclesByHand(p, n) {
		if len(cycle) == 1 {
			continue
		}
		text += "("
		for i, x := range cycle {
			if i > 0 {
				text += " "
			}
			text += strconv.Itoa(int(x))
		}
		text += ")"
	}
	if text == "" {
		return "()"
	}
	return text
}

func textByHand(d impl.Dessin) string {
	return strconv.Itoa(int(d.Darts)) + "|" + placesTextByHand(d.Black, d.Darts) + "|" + placesTextByHand(d.White, d.Darts)
}

func TestIsDessin(t *testing.T) {
	counts := []int{1, 3, 26, 426, 11064}
	for n := int64(1); n <= 5; n++ {
		count := 0
		for _, black := range allPlaces(n) {
			for _, white := range allPlaces(n) {
				d := impl.Dessin{Darts: n, Black: black, White: white}
				if impl.IsDessin(d) != joinsAll(d) {
					t.Errorf("IsDessin(%v) is %v", d, !joinsAll(d))
				}
				if impl.IsDessin(d) {
					count++
				}
			}
		}
		if count != counts[n-1] {
			t.Errorf("%d dessins with %d darts", count, n)
		}
	}
	for _, d := range sampleDessins() {
		if !impl.IsDessin(d) {
			t.Errorf("IsDessin(%v) is false", d)
		}
	}
	for name, d := range notDessins() {
		if impl.IsDessin(d) {
			t.Errorf("%s: IsDessin(%v) is true", name, d)
		}
	}
}

func TestIsDessinFollowsLongWays(t *testing.T) {
	for n := int64(2); n <= 16; n++ {
		d, _ := impl.ChainDessin(n)
		if !impl.IsDessin(d) {
			t.Errorf("the chain of %d is no dessin", n)
		}
		for x := range n - 1 {
			broken := d
			for _, p := range []*impl.Places{&broken.Black, &broken.White} {
				if int64(p[x]) == x+1 {
					p[x], p[x+1] = byte(x), byte(x+1)
				}
			}
			if impl.IsDessin(broken) {
				t.Errorf("the chain of %d without a step at %d is a dessin", n, x)
			}
		}
	}
}

func TestFaceOf(t *testing.T) {
	for _, d := range sampleDessins() {
		if p, code := impl.FaceOf(d); p != faceByHand(d) || code != impl.ErrNone {
			t.Errorf("FaceOf(%v) = %v, %d", d, p, code)
		}
	}
	d := impl.Dessin{Darts: 3, Black: impl.Places{1, 2, 0}, White: impl.Places{1, 0, 2}}
	if p, code := impl.FaceOf(d); p != (impl.Places{0, 2, 1}) || code != impl.ErrNone {
		t.Errorf("FaceOf(%v) = %v, %d", d, p, code)
	}
	for name, d := range notDessins() {
		if p, code := impl.FaceOf(d); p != (impl.Places{}) || code != impl.ErrInvalid {
			t.Errorf("%s: FaceOf = %v, %d", name, p, code)
		}
	}
}

func TestPassportOf(t *testing.T) {
	for _, d := range sampleDessins() {
		want := [][]int64{typeByHand(d.Black, d.Darts), typeByHand(d.White, d.Darts), typeByHand(faceByHand(d), d.Darts)}
		if x, code := impl.PassportOf(d); !sameLists(x, want) || code != impl.ErrNone {
			t.Errorf("PassportOf(%v) = %v, %d", d, x, code)
		}
	}
	star, _ := impl.StarDessin(4)
	if x, _ := impl.PassportOf(star); !sameLists(x, [][]int64{{4}, {1, 1, 1, 1}, {4}}) {
		t.Errorf("PassportOf = %v", x)
	}
	band, _ := impl.BandDessin(4)
	if x, _ := impl.PassportOf(band); !sameLists(x, [][]int64{{4}, {4}, {1, 1, 1, 1}}) {
		t.Errorf("PassportOf = %v", x)
	}
	for name, d := range notDessins() {
		if x, code := impl.PassportOf(d); len(x) != 0 || code != impl.ErrInvalid {
			t.Errorf("%s: PassportOf = %v, %d", name, x, code)
		}
	}
	checkOwnMemory(t, "PassportOf", func() [][]int64 {
		x, _ := impl.PassportOf(band)
		return x
	})
}

func TestEulerOf(t *testing.T) {
	for _, d := range sampleDessins() {
		if n, code := impl.EulerOf(d); n != eulerByHand(d) || code != impl.ErrNone {
			t.Errorf("EulerOf(%v) = %d, %d", d, n, code)
		}
	}
	for name, d := range notDessins() {
		if n, code := impl.EulerOf(d); n != 0 || code != impl.ErrInvalid {
			t.Errorf("%s: EulerOf = %d, %d", name, n, code)
		}
	}
}

func TestGenusIsAnIntegerOfAtLeastZero(t *testing.T) {
	found := map[int64]bool{}
	for _, d := range sampleDessins() {
		euler, _ := impl.EulerOf(d)
		genus, code := impl.GenusOf(d)
		if code != impl.ErrNone || genus < 0 || 2-2*genus != euler || euler != eulerByHand(d) {
			t.Errorf("GenusOf(%v) = %d, %d beside the Euler number %d", d, genus, code, euler)
		}
		found[genus] = true
	}
	for genus := range int64(7) {
		if !found[genus] {
			t.Errorf("no dessin of genus %d is tested", genus)
		}
	}
	for name, d := range notDessins() {
		if n, code := impl.GenusOf(d); n != 0 || code != impl.ErrInvalid {
			t.Errorf("%s: GenusOf = %d, %d", name, n, code)
		}
	}
}

func TestGenusOfKnownDessins(t *testing.T) {
	cases := []struct {
		text  string
		euler int64
		genus int64
	}{
		{"1|()|()", 2, 0},
		{"3|(0 1 2)|()", 2, 0},
		{"3|(0 1 2)|(0 1)", 2, 0},
		{"3|(0 1 2)|(0 1 2)", 0, 1},
		{"4|(0 1 2 3)|(0 2)(1 3)", 0, 1},
		{"5|(0 1 2 3 4)|(0 1 2 3 4)", -2, 2},
		{"15|(0 1 2 3 4 5 6 7 8 9 10 11 12 13 14)|(0 1 2 3 4 5 6 7 8 9 10 11 12 13 14)", -12, 7},
		{"16|(0 1 2 3 4 5 6 7 8 9 10 11 12 13 14 15)|(0 1 2 3 4 5 6 7 8 9 10 11 12 13 14 15)", -12, 7},
	}
	for _, c := range cases {
		d, code := impl.ParseDessin(c.text)
		if code != impl.ErrNone {
			t.Errorf("ParseDessin(%q): code %d", c.text, code)
		}
		if n, code := impl.EulerOf(d); n != c.euler || code != impl.ErrNone {
			t.Errorf("EulerOf %s = %d, %d", c.text, n, code)
		}
		if n, code := impl.GenusOf(d); n != c.genus || code != impl.ErrNone {
			t.Errorf("GenusOf %s = %d, %d", c.text, n, code)
		}
	}
}

func TestIncidencesOf(t *testing.T) {
	for _, d := range sampleDessins() {
		rows, code := impl.IncidencesOf(d)
		blacks, whites := cyclesByHand(d.Black, d.Darts), cyclesByHand(d.White, d.Darts)
		if code != impl.ErrNone || len(rows) != len(blacks) {
			t.Fatalf("IncidencesOf(%v) = %v, %d", d, rows, code)
		}
		for i, black := range blacks {
			var want []int64
			for _, white := range whites {
				both := int64(0)
				for _, x := range black {
					if slices.Contains(white, x) {
						both++
					}
				}
				want = append(want, both)
			}
			if !slices.Equal(rows[i], want) {
				t.Errorf("IncidencesOf(%v) = %v", d, rows)
			}
		}
	}
	for name, d := range notDessins() {
		if x, code := impl.IncidencesOf(d); len(x) != 0 || code != impl.ErrInvalid {
			t.Errorf("%s: IncidencesOf = %v, %d", name, x, code)
		}
	}
}

func TestIncidencesAddUpToTheDartsOfVertices(t *testing.T) {
	for _, d := range sampleDessins() {
		rows, _ := impl.IncidencesOf(d)
		blacks, _ := impl.CyclesOf(d.Black, d.Darts)
		whites, _ := impl.CyclesOf(d.White, d.Darts)
		columns := make([]int64, len(whites))
		for i, row := range rows {
			sum := int64(0)
			for j, x := range row {
				sum += x
				columns[j] += x
			}
			if sum != int64(len(blacks[i])) {
				t.Errorf("%v: the incidences of the black vertex %d add up to %d", d, i, sum)
			}
		}
		for j, sum := range columns {
			if sum != int64(len(whites[j])) {
				t.Errorf("%v: the incidences of the white vertex %d add up to %d", d, j, sum)
			}
		}
	}
}

func TestIncidencesOfKnownDessins(t *testing.T) {
	cases := map[string][][]int64{
		"1|()|()":                {{1}},
		"3|(0 1 2)|()":           {{1, 1, 1}},
		"3|()|(0 1 2)":           {{1}, {1}, {1}},
		"4|(0 1 2 3)|(0 1 2 3)":  {{4}},
		"4|(0 2)(1 3)|(0 1)":     {{1, 1, 0}, {1, 0, 1}},
		"5|(0 1 2)(3 4)|(1 2 3)": {{1, 2, 0}, {0, 1, 1}},
	}
	for text, want := range cases {
		d, _ := impl.ParseDessin(text)
		if x, code := impl.IncidencesOf(d); !sameLists(x, want) || code != impl.ErrNone {
			t.Errorf("IncidencesOf %s = %v, %d", text, x, code)
		}
		checkOwnMemory(t, "IncidencesOf", func() [][]int64 {
			x, _ := impl.IncidencesOf(d)
			return x
		})
	}
}

func TestStarsChainsAndBands(t *testing.T) {
	for n := int64(1); n <= 16; n++ {
		var round, back, odd, even impl.Places
		for x := range n {
			round[x], back[x] = byte((x+1)%n), byte((x+n-1)%n)
			even[x], odd[x] = byte(min(x^1, n-1)), byte(min((x+1)^1-1, n-1))
		}
		odd[0] = 0
		star, code := impl.StarDessin(n)
		if star != (impl.Dessin{Darts: n, Black: round, White: staying(n)}) || code != impl.ErrNone || !impl.IsDessin(star) {
			t.Errorf("StarDessin(%d) = %v, %d", n, star, code)
		}
		chain, code := impl.ChainDessin(n)
		if chain != (impl.Dessin{Darts: n, Black: odd, White: even}) || code != impl.ErrNone || !impl.IsDessin(chain) {
			t.Errorf("ChainDessin(%d) = %v, %d", n, chain, code)
		}
		band, code := impl.BandDessin(n)
		if band != (impl.Dessin{Darts: n, Black: round, White: back}) || code != impl.ErrNone || !impl.IsDessin(band) {
			t.Errorf("BandDessin(%d) = %v, %d", n, band, code)
		}
	}
	for _, n := range []int64{0, -1, -16, 17, 257, 1<<32 + 4, math.MinInt64, math.MaxInt64} {
		for i, build := range []func(int64) (impl.Dessin, int64){impl.StarDessin, impl.ChainDessin, impl.BandDessin} {
			if d, code := build(n); d != (impl.Dessin{}) || code != impl.ErrRange {
				t.Errorf("%d: of %d it is %v, %d", i, n, d, code)
			}
		}
	}
}

func TestTextsOfStarsChainsAndBands(t *testing.T) {
	cases := []struct {
		build func(int64) (impl.Dessin, int64)
		n     int64
		want  string
	}{
		{impl.StarDessin, 1, "1|()|()"},
		{impl.ChainDessin, 1, "1|()|()"},
		{impl.BandDessin, 1, "1|()|()"},
		{impl.StarDessin, 2, "2|(0 1)|()"},
		{impl.ChainDessin, 2, "2|()|(0 1)"},
		{impl.BandDessin, 2, "2|(0 1)|(0 1)"},
		{impl.StarDessin, 3, "3|(0 1 2)|()"},
		{impl.ChainDessin, 3, "3|(1 2)|(0 1)"},
		{impl.BandDessin, 3, "3|(0 1 2)|(0 2 1)"},
		{impl.ChainDessin, 5, "5|(1 2)(3 4)|(0 1)(2 3)"},
		{impl.ChainDessin, 6, "6|(1 2)(3 4)|(0 1)(2 3)(4 5)"},
		{impl.StarDessin, 12, "12|(0 1 2 3 4 5 6 7 8 9 10 11)|()"},
		{impl.BandDessin, 12, "12|(0 1 2 3 4 5 6 7 8 9 10 11)|(0 11 10 9 8 7 6 5 4 3 2 1)"},
		{impl.ChainDessin, 16, "16|(1 2)(3 4)(5 6)(7 8)(9 10)(11 12)(13 14)|(0 1)(2 3)(4 5)(6 7)(8 9)(10 11)(12 13)(14 15)"},
	}
	for _, c := range cases {
		d, _ := c.build(c.n)
		if text, code := impl.DessinText(d); text != c.want || code != impl.ErrNone {
			t.Errorf("DessinText = %q, %d, not %q", text, code, c.want)
		}
	}
}

func TestDessinsComeBackFromTheirTexts(t *testing.T) {
	texts := map[impl.Dessin]string{}
	dessins := map[string]impl.Dessin{}
	for _, d := range sampleDessins() {
		text, code := impl.DessinText(d)
		if text != textByHand(d) || code != impl.ErrNone {
			t.Errorf("DessinText(%v) = %q, %d", d, text, code)
		}
		if e, code := impl.ParseDessin(text); e != d || code != impl.ErrNone {
			t.Errorf("ParseDessin(%q) = %v, %d", text, e, code)
		}
		texts[d], dessins[text] = text, d
	}
	if len(texts) != len(dessins) {
		t.Errorf("%d dessins have %d texts", len(texts), len(dessins))
	}
	for name, d := range notDessins() {
		if text, code := impl.DessinText(d); text != "" || code != impl.ErrInvalid {
			t.Errorf("%s: DessinText = %q, %d", name, text, code)
		}
	}
}

func TestParseDessinRefuses(t *testing.T) {
	texts := []string{
		"", "|", "||", "|||", "3", "3|", "3||", "3|(0 1 2)", "3|(0 1 2)|", "3||()", "|(0 1 2)|()",
		"3|(0 1 2)|()|", "3|(0 1 2)|()|()", "|3|(0 1 2)|()",
		"0|()|()", "17|()|()", "-1|()|()", "-3|(0 1 2)|()", "257|()|()", "4294967297|()|()", "18446744073709551617|()|()",
		"17|(0 1 2 3 4 5 6 7 8 9 10 11 12 13 14 15 16)|()",
		"2|()|()", "4|(0 1)|(2 3)", "4|(0 1 2)|(0 1)", "16|()|()",
		"3|(0 1 3)|()", "3|(0 1 2)|(0 3)", "2|(0 1 2)|()", "3|(0 1 -1)|()", "3|(0 1 258)|()", "3|(0 1 4294967298)|()",
		"3|(0 1 18446744073709551618)|()", "3|(0 1 1)|()", "3|(0 1)(1 2)|()", "3|(0 1 2 0)|()", "3|(0 1 2)(0 1 2)|()",
		"4|(2 3)(0 1)|(1 2)", "4|(1 2)|(2 3)(0 1)", "3|(1 2 0)|()", "3|(2 0 1)|()", "3|(1 2)|(1 0)", "3|(2 1)|(0 1)",
		"03|(0 1 2)|()", "3|(00 1 2)|()", "3|(0 01 2)|()", "3|(0 1 02)|()", "3|(1 2)|(0 01)", "+3|(0 1 2)|()", "3|(0 1 +2)|()", "3|(-0 1 2)|()",
		" 3|(0 1 2)|()", "3 |(0 1 2)|()", "3| (0 1 2)|()", "3|(0 1 2) |()", "3|(0 1 2)| ()", "3|(0 1 2)|() ",
		"3|( 0 1 2)|()", "3|(0 1 2 )|()", "3|(0  1 2)|()", "3|(0 1 2)|( )", "4|(1 2)|(0 1) (2 3)", "3|(0\t1 2)|()", "3|(0,1,2)|()",
		"3|(0 1 2)|()\n", "\n3|(0 1 2)|()", "3|(0 1 2)\n|()", "3|(0 1 2)|()\x00",
		"3|(0 1 2)|(0)", "3|(0 1 2)|(0)(1)(2)", "3|(0)(1 2)|(0 1)", "3|(1 2)(0)|(0 1)", "1|(0)|()", "1|()|(0)",
		"3|(0 1 2)()|()", "3|()(0 1 2)|()", "3|(0 1 2)|()()", "3|(0 1 2)|(())", "3|((0 1 2))|()",
		"3|(0 1 2|()", "3|0 1 2)|()", "3|0 1 2|()", "3|(0 1 2)|", "3|(0 1 2)|(", "3|(0 1 2)|)", "3|(0 1 2)|)(", "4|(1 2)|(0 1(2 3)", "4|(1 2)|(0 1)2 3)",
		"3|[0 1 2]|()", "3|(a b c)|()", "x|(0 1 2)|()", "3|(0 1 2)|id", "3|(012)|()", "3|(0 1 2)/()", "3.0|(0 1 2)|()", "0x3|(0 1 2)|()", "3|(0 1 0x2)|()", "3|(0 1 2_)|()",
		"٣|(0 1 2)|()", "3|(0 1 ٢)|()", "3|（0 1 2）|()", "3|(0 1 2)|()\xff",
		strings.Repeat("(", 100000), "3|" + strings.Repeat("()", 100000) + "|()", "3|(" + strings.Repeat("0 ", 100000) + "0)|()", strings.Repeat("|", 100000),
	}
	for _, text := range texts {
		if d, code := impl.ParseDessin(text); d != (impl.Dessin{}) || code != impl.ErrSyntax {
			t.Errorf("ParseDessin(%.40q) = %v, %d", text, d, code)
		}
	}
}

// TestParsedTextsAreWrittenTheSame changes texts by one byte each: what is still read has this text.
func TestParsedTextsAreWrittenTheSame(t *testing.T) {
	refused, read := 0, 0
	check := func(text string) {
		d, code := impl.ParseDessin(text)
		switch {
		case code == impl.ErrNone && impl.IsDessin(d) && textByHand(d) == text:
			read++
		case code == impl.ErrSyntax && d == impl.Dessin{}:
			refused++
		default:
			t.Errorf("ParseDessin(%q) = %v, %d", text, d, code)
		}
	}
	for i, d := range sampleDessins() {
		if i%5 != 0 {
			continue
		}
		text := textByHand(d)
		for j := range len(text) {
			check(text[:j] + text[j+1:])
			for _, b := range []string{"0", "1", "2", "9", " ", "(", ")", "|", "-", "+", "\n"} {
				check(text[:j] + b + text[j:])
				check(text[:j] + b + text[j+1:])
			}
		}
	}
	if read == 0 || refused == 0 {
		t.Errorf("%d texts were read, %d refused", read, refused)
	}
}
