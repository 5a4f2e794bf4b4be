package tests

import (
	"strings"
	"testing"

	"loop.example/g01200/impl"
)

func TestLimitsOfGroups(t *testing.T) {
	if impl.MaxElements != 5000 || impl.MaxSpelled != 60 {
		t.Errorf("MaxElements = %d, MaxSpelled = %d", impl.MaxElements, impl.MaxSpelled)
	}
}

func TestGroupOrder(t *testing.T) {
	small, great := 0, 0
	for _, d := range groupDessins(t) {
		want := int64(len(groupOfDessin(d)))
		if want == 0 {
			great++
			want = orderOfDessin(d)
		} else {
			small++
		}
		if order, code := impl.GroupOrder(d); order != want || code != impl.ErrNone {
			t.Fatalf("GroupOrder(%v) = %d, %d, not %d", d, order, code, want)
		}
	}
	if small < 300 || great < 50 {
		t.Errorf("only %d small and %d great groups are tested", small, great)
	}
}

func TestGroupOrderOfKnownGroups(t *testing.T) {
	for _, g := range knownGroups() {
		if order, code := impl.GroupOrder(mustParse(t, g.text)); order != g.order || code != impl.ErrNone {
			t.Errorf("%s: GroupOrder = %d, %d", g.name, order, code)
		}
	}
	factorial := int64(1)
	for n := int64(1); n <= 16; n++ {
		factorial *= n
		star, _ := impl.StarDessin(n)
		chain, _ := impl.ChainDessin(n)
		band, _ := impl.BandDessin(n)
		dihedral := 2 * n
		if n <= 2 {
			dihedral = n
		}
		all := star
		if n > 1 {
			all.White = staying(n)
			all.White[0], all.White[1] = 1, 0
		}
		for _, c := range []struct {
			d    impl.Dessin
			want int64
		}{{star, n}, {chain, dihedral}, {band, n}, {all, factorial}} {
			if order, code := impl.GroupOrder(c.d); order != c.want || code != impl.ErrNone {
				t.Errorf("GroupOrder(%v) = %d, %d, not %d", c.d, order, code, c.want)
			}
		}
	}
}

// TestGroupOrderIsAMultipleAndADivisor: it is one of the number of darts, and divides its factorial.
func TestGroupOrderIsAMultipleAndADivisor(t *testing.T) {
	for _, d := range append(groupDessins(t), sampleDessins()...) {
		factorial := int64(1)
		for k := int64(1); k <= d.Darts; k++ {
			factorial *= k
		}
		if order, code := impl.GroupOrder(d); order < d.Darts || order%d.Darts != 0 || factorial%order != 0 || code != impl.ErrNone {
			t.Fatalf("GroupOrder(%v) = %d, %d", d, order, code)
		}
	}
}

// TestRenamedDessinsHaveGroupsOfTheSameOrder also exchanges Black, White and Face.
func TestRenamedDessinsHaveGroupsOfTheSameOrder(t *testing.T) {
	for _, d := range groupDessins(t) {
		order, _ := impl.GroupOrder(d)
		alike := []impl.Dessin{
			withOtherNames(d),
			{Darts: d.Darts, Black: d.White, White: d.Black},
			{Darts: d.Darts, Black: faceByHand(d), White: d.Black},
			{Darts: d.Darts, Black: backByHand(d.Black, d.Darts), White: backByHand(d.White, d.Darts)},
		}
		for _, e := range alike {
			if found, code := impl.GroupOrder(e); found != order || code != impl.ErrNone {
				t.Fatalf("GroupOrder(%v) = %d, %d, and of %v it is %d", e, found, code, d, order)
			}
		}
	}
}

func TestInGroupOfFewDarts(t *testing.T) {
	for n := int64(1); n <= 4; n++ {
		for i, d := range allDessins(n) {
			if n == 4 && i%7 != 0 {
				continue
			}
			group := groupOfDessin(d)
			for _, p := range allPlaces(n) {
				if yes, code := impl.InGroup(d, p); yes != group[p] || code != impl.ErrNone {
					t.Fatalf("InGroup(%v, %v) = %v, %d", d, p, yes, code)
				}
			}
		}
	}
}

// TestInGroup asks for permutations inside and outside: p is inside if it makes the group no greater.
func TestInGroup(t *testing.T) {
	s := source(33)
	inside, outside := 0, 0
	for _, d := range groupDessins(t) {
		swap := staying(d.Darts)
		swap[0], swap[d.Darts-1] = swap[d.Darts-1], swap[0]
		order := orderOfDessin(d)
		for _, p := range []impl.Places{s.places(d.Darts), swap, thenByHand(faceByHand(d), d.White, d.Darts), thenByHand(d.White, swap, d.Darts)} {
			want := orderByHand(d.Darts, 0, []impl.Places{d.Black, d.White, p}) == order
			if yes, code := impl.InGroup(d, p); yes != want || code != impl.ErrNone {
				t.Fatalf("InGroup(%v, %v) = %v, %d", d, p, yes, code)
			}
			if want {
				inside++
			} else {
				outside++
			}
		}
	}
	if inside < 300 || outside < 300 {
		t.Errorf("only %d permutations inside and %d outside are tested", inside, outside)
	}
}

func TestInGroupRefuses(t *testing.T) {
	for name, d := range notDessins() {
		for _, p := range []impl.Places{{}, staying(3), staying(16), {15: 16}} {
			if yes, code := impl.InGroup(d, p); yes || code != impl.ErrInvalid {
				t.Errorf("%s: InGroup = %v, %d", name, yes, code)
			}
		}
	}
	for name, c := range notPermutations() {
		if star, made := impl.StarDessin(c.n); made == impl.ErrNone {
			if yes, code := impl.InGroup(star, c.p); yes || code != impl.ErrRange {
				t.Errorf("%s: InGroup = %v, %d", name, yes, code)
			}
		}
	}
	star, _ := impl.StarDessin(3)
	for _, p := range []impl.Places{{}, staying(2), staying(4), {1, 2, 0, 3}, {1, 2, 3, 0}, {1, 2, 0, 15: 1}} {
		if yes, code := impl.InGroup(star, p); yes || code != impl.ErrRange {
			t.Errorf("InGroup(star of 3, %v) = %v, %d", p, yes, code)
		}
	}
}

// valueByHand follows each dart alone through the letters of a word.
func valueByHand(d impl.Dessin, word string) impl.Places {
	backwards := func(p impl.Places, x byte) byte {
		y := byte(0)
		for p[y] != x {
			y++
		}
		return y
	}
	var value impl.Places
	for start := range byte(d.Darts) {
		x := start
		for _, letter := range []byte(word) {
			switch letter {
			case 'b':
				x = d.Black[x]
			case 'w':
				x = d.White[x]
			case 'F':
				x = d.White[d.Black[x]]
			case 'B':
				x = backwards(d.Black, x)
			case 'W':
				x = backwards(d.White, x)
			case 'f':
				x = backwards(d.Black, backwards(d.White, x))
			}
		}
		value[start] = x
	}
	return value
}

// sampleWords returns all words of at most 2 letters, and some of up to 60.
func sampleWords() []string {
	letters := "bwfBWF"
	words := []string{""}
	for _, x := range letters {
		words = append(words, string(x))
		for _, y := range letters {
			words = append(words, string(x)+string(y))
		}
	}
	s := source(60)
	for _, length := range []int{3, 5, 17, 59, 60} {
		var word strings.Builder
		for range length {
			word.WriteByte(letters[s.below(len(letters))])
		}
		words = append(words, word.String())
	}
	return words
}

func TestValuesOfWordsBelongToTheGroup(t *testing.T) {
	words := sampleWords()
	for i, d := range groupDessins(t) {
		group := groupOfDessin(d)
		for j, word := range words {
			if d.Darts > 3 && (i+j)%8 != 0 && word != "" && len(word) < 59 {
				continue
			}
			want := valueByHand(d, word)
			value, code := impl.ValueOfWord(d, word)
			if value != want || code != impl.ErrNone {
				t.Fatalf("ValueOfWord(%v, %q) = %v, %d", d, word, value, code)
			}
			if yes, code := impl.InGroup(d, value); !yes || code != impl.ErrNone || group != nil && !group[value] {
				t.Fatalf("InGroup(%v, %v) = %v, %d for the value of %q", d, value, yes, code, word)
			}
			order, code := impl.OrderOfWord(d, word)
			if order != commonMultiple(typeByHand(want, d.Darts)) || code != impl.ErrNone {
				t.Fatalf("OrderOfWord(%v, %q) = %d, %d", d, word, order, code)
			}
			if whole, _ := impl.GroupOrder(d); whole%order != 0 {
				t.Errorf("OrderOfWord(%v, %q) = %d does not divide %d", d, word, order, whole)
			}
		}
	}
}

func TestValuesOfKnownWords(t *testing.T) {
	cases := []struct {
		text  string
		word  string
		want  impl.Places
		order int64
	}{
		{"1|()|()", "", impl.Places{0}, 1},
		{"1|()|()", "bwfBWF", impl.Places{0}, 1},
		{"3|(0 1 2)|(0 1)", "", impl.Places{0, 1, 2}, 1},
		{"3|(0 1 2)|(0 1)", "b", impl.Places{1, 2, 0}, 3},
		{"3|(0 1 2)|(0 1)", "w", impl.Places{1, 0, 2}, 2},
		{"3|(0 1 2)|(0 1)", "f", impl.Places{0, 2, 1}, 2},
		{"3|(0 1 2)|(0 1)", "B", impl.Places{2, 0, 1}, 3},
		{"3|(0 1 2)|(0 1)", "bw", impl.Places{0, 2, 1}, 2},
		{"3|(0 1 2)|(0 1)", "wb", impl.Places{2, 1, 0}, 2},
		{"3|(0 1 2)|(0 1)", "bwf", impl.Places{0, 1, 2}, 1},
		{"4|(0 1 2)|(2 3)", "f", impl.Places{2, 0, 3, 1}, 4},
		{"4|(0 1 2)|(2 3)", "F", impl.Places{1, 3, 0, 2}, 4},
		{"4|(0 1 2)|(2 3)", "bwBW", impl.Places{0, 2, 3, 1}, 3},
	}
	for _, c := range cases {
		d := mustParse(t, c.text)
		if p, code := impl.ValueOfWord(d, c.word); p != c.want || code != impl.ErrNone {
			t.Errorf("ValueOfWord(%s, %q) = %v, %d", c.text, c.word, p, code)
		}
		if n, code := impl.OrderOfWord(d, c.word); n != c.order || code != impl.ErrNone {
			t.Errorf("OrderOfWord(%s, %q) = %d, %d", c.text, c.word, n, code)
		}
	}
	greatest := mustParse(t, "16|(0 1 2 3)(4 5 6 7 8)(9 10 11 12 13 14 15)|(3 4)(8 9)")
	if n, code := impl.OrderOfWord(greatest, "B"); n != 140 || code != impl.ErrNone {
		t.Errorf("OrderOfWord = %d, %d", n, code)
	}
}

func TestWordsRefuse(t *testing.T) {
	check := func(name string, d impl.Dessin, word string, want int64) {
		t.Helper()
		if p, code := impl.ValueOfWord(d, word); p != (impl.Places{}) || code != want {
			t.Errorf("%s: ValueOfWord(%v, %q) = %v, %d", name, d, word, p, code)
		}
		if n, code := impl.OrderOfWord(d, word); n != 0 || code != want {
			t.Errorf("%s: OrderOfWord(%v, %q) = %d, %d", name, d, word, n, code)
		}
	}
	for name, d := range notDessins() {
		for _, word := range []string{"", "b", "x", strings.Repeat("b", 61)} {
			check(name, d, word, impl.ErrInvalid)
		}
	}
	for n := int64(1); n <= 16; n++ {
		star, _ := impl.StarDessin(n)
		for _, word := range []string{"x", " ", "b ", " b", "b w", "bwx", "xbw", "bw\n", "b\x00", "0", "()", "\xff", "b\xffw", "é", "ｂ", "bwfBWFa"} {
			check("a letter that is none", star, word, impl.ErrSyntax)
		}
		for _, length := range []int{61, 62, 120, 5000} {
			check("too many letters", star, strings.Repeat("b", length), impl.ErrSyntax)
			check("too many letters", star, strings.Repeat("bB", length), impl.ErrSyntax)
		}
		check("one letter that is none too many", star, strings.Repeat("w", 60)+"x", impl.ErrSyntax)
		check("the last letter is none", star, strings.Repeat("w", 59)+"x", impl.ErrSyntax)
		if p, code := impl.ValueOfWord(star, strings.Repeat("b", 60)); p[0] != byte(60%n) || code != impl.ErrNone {
			t.Errorf("ValueOfWord of 60 letters = %v, %d", p, code)
		}
		for letter := range 256 {
			word := string([]byte{byte(letter)})
			if !strings.Contains("bwfBWF", word) {
				check("a byte that is no letter", star, word, impl.ErrSyntax)
			}
		}
	}
}

// TestAutomorphismsAreAsManyAsDartsExactlyForGroupsOfSoMany is about IsRegular, too.
func TestAutomorphismsAreAsManyAsDartsExactlyForGroupsOfSoMany(t *testing.T) {
	regular := 0
	for _, d := range append(groupDessins(t), sampleDessins()...) {
		turns := int64(len(isomorphismsByHand(d, d)))
		want := turns == d.Darts
		if want && d.Darts > 4 {
			regular++
		}
		order, code := impl.GroupOrder(d)
		if (order == d.Darts) != want || code != impl.ErrNone {
			t.Fatalf("GroupOrder(%v) = %d, %d, and there are %d automorphisms", d, order, code, turns)
		}
		if found, code := impl.AutomorphismsOf(d); int64(len(found)) != turns || code != impl.ErrNone {
			t.Fatalf("AutomorphismsOf(%v) = %v, %d", d, found, code)
		}
		if yes, code := impl.IsRegular(d); yes != want || code != impl.ErrNone {
			t.Fatalf("IsRegular(%v) = %v, %d", d, yes, code)
		}
		if yes, code := impl.IsRegularDessin(d); yes != want || code != impl.ErrNone {
			t.Fatalf("IsRegularDessin(%v) = %v, %d", d, yes, code)
		}
	}
	if regular < 50 {
		t.Errorf("only %d regular dessins are tested", regular)
	}
}

func TestIsRegularOfKnownDessins(t *testing.T) {
	for name, d := range regularDessins() {
		if yes, code := impl.IsRegular(d); !yes || code != impl.ErrNone {
			t.Errorf("%s: IsRegular = %v, %d", name, yes, code)
		}
	}
	for text, want := range map[string]bool{
		"1|()|()": true, "2|(0 1)|()": true, "3|(0 1 2)|(0 1)": false, "3|(0 1)|(1 2)": false, "4|(0 1)(2 3)|(0 2)(1 3)": true,
		"4|(0 1 2 3)|(0 2)": false, "4|(0 1 2 3)|(0 2)(1 3)": true, "8|(0 1 2 3)(4 5 6 7)|(0 4 2 6)(1 7 3 5)": true,
	} {
		if yes, code := impl.IsRegular(mustParse(t, text)); yes != want || code != impl.ErrNone {
			t.Errorf("IsRegular(%s) = %v, %d", text, yes, code)
		}
	}
}

// isEvenByHand counts the pairs of darts that are exchanged in their order.
func isEvenByHand(p impl.Places, n int64) bool {
	exchanged := 0
	for y := range n {
		for x := range y {
			if p[x] > p[y] {
				exchanged++
			}
		}
	}
	return exchanged%2 == 0
}

func TestIsEven(t *testing.T) {
	counts := map[bool]int{}
	for _, d := range append(groupDessins(t), sampleDessins()...) {
		want := isEvenByHand(d.Black, d.Darts) && isEvenByHand(d.White, d.Darts)
		counts[want]++
		if yes, code := impl.IsEven(d); yes != want || code != impl.ErrNone {
			t.Fatalf("IsEven(%v) = %v, %d", d, yes, code)
		}
		group := groupOfDessin(d)
		for p := range group {
			if want && !isEvenByHand(p, d.Darts) {
				t.Fatalf("%v of the even group of %v is not even", p, d)
			}
		}
	}
	if counts[true] < 50 || counts[false] < 50 {
		t.Errorf("even and other groups that are tested: %v", counts)
	}
	for text, want := range map[string]bool{
		"1|()|()": true, "2|(0 1)|()": false, "2|()|(0 1)": false, "2|(0 1)|(0 1)": false, "3|(0 1 2)|()": true,
		"4|(0 1)(2 3)|(0 2)(1 3)": true, "4|(0 1 2 3)|(0 2)": false, "4|(0 1 2)|(2 3)": false, "4|(2 3)|(0 1 2)": false, "5|(0 1 2 3 4)|(0 1 2)": true,
	} {
		if yes, code := impl.IsEven(mustParse(t, text)); yes != want || code != impl.ErrNone {
			t.Errorf("IsEven(%s) = %v, %d", text, yes, code)
		}
	}
}

func TestGroupsOfNoDessins(t *testing.T) {
	for name, d := range notDessins() {
		if n, code := impl.GroupOrder(d); n != 0 || code != impl.ErrInvalid {
			t.Errorf("%s: GroupOrder = %d, %d", name, n, code)
		}
		if yes, code := impl.IsRegular(d); yes || code != impl.ErrInvalid {
			t.Errorf("%s: IsRegular = %v, %d", name, yes, code)
		}
		if yes, code := impl.IsEven(d); yes || code != impl.ErrInvalid {
			t.Errorf("%s: IsEven = %v, %d", name, yes, code)
		}
		if yes, code := impl.IsPrimitive(d); yes || code != impl.ErrInvalid {
			t.Errorf("%s: IsPrimitive = %v, %d", name, yes, code)
		}
		if list, code := impl.BlocksOf(d); len(list) != 0 || code != impl.ErrInvalid {
			t.Errorf("%s: BlocksOf = %v, %d", name, list, code)
		}
		if list, code := impl.DerivedSeries(d); len(list) != 0 || code != impl.ErrInvalid {
			t.Errorf("%s: DerivedSeries = %v, %d", name, list, code)
		}
		if yes, code := impl.IsSolvable(d); yes || code != impl.ErrInvalid {
			t.Errorf("%s: IsSolvable = %v, %d", name, yes, code)
		}
		if types, counts, code := impl.ElementTypes(d); len(types) != 0 || len(counts) != 0 || code != impl.ErrInvalid {
			t.Errorf("%s: ElementTypes = %v, %v, %d", name, types, counts, code)
		}
		if n, code := impl.ClosureGenus(d); n != 0 || code != impl.ErrInvalid {
			t.Errorf("%s: ClosureGenus = %d, %d", name, n, code)
		}
	}
}
