package tests

import (
	"slices"
	"strings"
	"testing"

	"loop.example/g01200/impl"
)

// fourLetters are in the order in which cosets are defined for them; inverses are neighbours.
const fourLetters = "xXyY"

// pairsThatCancel are the letters with their inverses behind them.
func pairsThatCancel() []string { return []string{"xX", "Xx", "yY", "Yy"} }

// reducedByHand takes pairs away as long as there are any.
func reducedByHand(word string) string {
	for before := ""; before != word; {
		before = word
		for _, both := range pairsThatCancel() {
			word = strings.Replace(word, both, "", 1)
		}
	}
	return word
}

func inverseByLetters(word string) string {
	inverse := ""
	for _, letter := range word {
		inverse = map[rune]string{'x': "X", 'X': "x", 'y': "Y", 'Y': "y"}[letter] + inverse
	}
	return inverse
}

// powerOfWord repeats a word.
func powerOfWord(word string, n int) string { return strings.Repeat(word, n) }

// leadByHand follows one dart, or coset, through the letters of a word.
func leadByHand(table [][]int64, c int64, word string) int64 {
	for _, letter := range word {
		switch letter {
		case 'x':
			c = table[c][0]
		case 'y':
			c = table[c][1]
		case 'X':
			c = int64(slices.IndexFunc(table, func(row []int64) bool { return row[0] == c }))
		case 'Y':
			c = int64(slices.IndexFunc(table, func(row []int64) bool { return row[1] == c }))
		}
	}
	return c
}

// rowsOf has the darts of a dessin as cosets.
func rowsOf(d impl.Dessin) [][]int64 {
	var rows [][]int64
	for x := range d.Darts {
		rows = append(rows, []int64{int64(d.Black[x]), int64(d.White[x])})
	}
	return rows
}

func placesOfWord(d impl.Dessin, word string) impl.Places {
	var p impl.Places
	for x := range d.Darts {
		p[x] = byte(leadByHand(rowsOf(d), x, word))
	}
	return p
}

// fixesAll reports whether words lead each coset to itself.
func fixesAll(table [][]int64, words []string) bool {
	for _, word := range words {
		for c := range table {
			if leadByHand(table, int64(c), word) != int64(c) {
				return false
			}
		}
	}
	return true
}

// stabiliserByHand takes the naming from 0, and as way to a dart that from the one with the least
// name that Black or White leads to it.
func stabiliserByHand(d impl.Dessin) []string {
	names := namingByHand(d, 0)
	order := backByHand(names, d.Darts)
	ways := map[byte]string{0: ""}
	for _, dart := range order[1:d.Darts] {
		for _, z := range order[:names[dart]] {
			if _, known := ways[dart]; !known && d.Black[z] == dart {
				ways[dart] = ways[z] + "x"
			} else if !known && d.White[z] == dart {
				ways[dart] = ways[z] + "y"
			}
		}
	}
	var words []string
	for _, z := range order[:d.Darts] {
		words = append(words, ways[z]+"x"+inverseByLetters(ways[d.Black[z]]))
		words = append(words, ways[z]+"y"+inverseByLetters(ways[d.White[z]]))
	}
	for i := range words {
		words[i] = reducedByHand(words[i])
	}
	return slices.DeleteFunc(words, func(word string) bool { return word == "" })
}

func (s *source) spelling(length int) string {
	var word strings.Builder
	for range length {
		word.WriteByte(fourLetters[s.below(4)])
	}
	return word.String()
}

// spellings are all words of at most 3 letters, and some of up to 60.
func spellings() []string {
	words := []string{""}
	for i := 0; i < len(words); i++ {
		for _, letter := range fourLetters {
			if len(words[i]) < 3 {
				words = append(words, words[i]+string(letter))
			}
		}
	}
	s := source(8)
	for length := 4; length <= 60; length++ {
		words = append(words, s.spelling(length))
	}
	for _, half := range []string{"x", "xy", "xyX", "yyXXy", s.spelling(10), s.spelling(10)} {
		half = powerOfWord(half, 30/len(half))
		words = append(words, half+inverseByLetters(half), inverseByLetters(half)+half, half+half)
	}
	return words
}

// notSpellings are texts that are no words.
func notSpellings() []string {
	return []string{
		"z", "a", "b", "w", "0", "1", " ", "x y", " x", "x ", "x\n", "\nxy", "xz", "zx", "xyzXY", "(x)", "x^2", "xy,yx",
		"\x00", "x\x00", "x\xff", "\xe2\x82", "é", "xé", "х", "Υ", "xx\u00d7", "w" + powerOfWord("x", 59),
		powerOfWord("x", 61), powerOfWord("xX", 31), powerOfWord("yYxX", 16), powerOfWord("xy", 100), powerOfWord("x", 60) + "z",
		powerOfWord("y", 316), powerOfWord("Y", 65596), powerOfWord("z", 61),
	}
}

// withSpareWords copies a list with some texts behind it.
func withSpareWords(words []string) []string {
	return append(slices.Clone(words), "zz", "zz")[:len(words)]
}

// checkWordsKept fails if what withSpareWords made has been changed.
func checkWordsKept(t *testing.T, name string, words []string, want []string) {
	t.Helper()
	if !slices.Equal(words[:len(want)+2], append(slices.Clone(want), "zz", "zz")) {
		t.Errorf("%s changes its argument %q to %q", name, want, words[:len(want)+2])
	}
}

// checkOwnWords overwrites a result with its spare capacity, and fails if this changes the next one.
func checkOwnWords(t *testing.T, name string, words func() []string) {
	t.Helper()
	result := words()
	want := slices.Clone(result)
	for i := range result[:cap(result)] {
		result[:cap(result)][i] = "zz"
	}
	if !slices.Equal(words(), want) {
		t.Errorf("%s: the result is no new memory", name)
	}
}

// slowCosets are cosets with all their names: each name has the least one of the same coset, and at
// this one the names to which the four letters lead, or -1.
type slowCosets struct {
	names []int
	ends  [][4]int
	news  bool
}

func (s *slowCosets) add() int {
	s.names = append(s.names, len(s.names))
	s.ends = append(s.ends, [4]int{-1, -1, -1, -1})
	s.news = true
	return len(s.names) - 1
}

func (s *slowCosets) count() int {
	count := 0
	for name, least := range s.names {
		if name == least {
			count++
		}
	}
	return count
}

// after is where a letter leads a coset, or -1.
func (s *slowCosets) after(c int, letter int) int {
	end := s.ends[s.names[c]][letter]
	if end < 0 {
		return -1
	}
	return s.names[end]
}

func (s *slowCosets) learn(c int, letter int, d int) {
	for _, known := range [][3]int{{c, letter, d}, {d, letter ^ 1, c}} {
		from, to := s.names[known[0]], s.names[known[2]]
		if end := s.after(from, known[1]); end >= 0 {
			s.unite(end, to)
		} else {
			s.ends[from][known[1]] = to
			s.news = true
		}
	}
}

func (s *slowCosets) unite(c int, d int) {
	least, other := min(s.names[c], s.names[d]), max(s.names[c], s.names[d])
	if least == other {
		return
	}
	s.news = true
	for i := range s.names {
		if s.names[i] == other {
			s.names[i] = least
		}
	}
	for letter, end := range s.ends[other] {
		if end >= 0 {
			s.learn(least, letter, end)
		}
	}
}

// trace traces a word, and returns how many letters are left, the first of them, and its coset.
func (s *slowCosets) trace(word string, c int) (left int, letter int, at int) {
	end := c
	at = c
	for word != "" {
		letter = strings.IndexByte(fourLetters, word[0])
		if s.after(at, letter) < 0 {
			break
		}
		at, word = s.after(at, letter), word[1:]
	}
	for word != "" {
		last := strings.IndexByte(fourLetters, word[len(word)-1]) ^ 1
		if s.after(end, last) < 0 {
			break
		}
		end, word = s.after(end, last), word[:len(word)-1]
	}
	switch len(word) {
	case 0:
		s.unite(at, end)
	case 1:
		s.learn(at, letter, end)
	}
	return len(word), letter, at
}

func (s *slowCosets) traceUntilNothingIsNew(relations []string, words []string) {
	for s.news {
		s.news = false
		for _, relation := range relations {
			for name := range s.names {
				if s.names[name] == name {
					s.trace(relation, name)
				}
			}
		}
		for _, word := range words {
			s.trace(word, 0)
		}
	}
}

// gap is the first coset that a letter leads nowhere, and its first such letter.
func (s *slowCosets) gap() (c int, letter int, found bool) {
	for name, least := range s.names {
		for letter := range 4 {
			if name == least && s.after(name, letter) < 0 {
				return name, letter, true
			}
		}
	}
	return 0, 0, false
}

// firstCosets are those that are there when each subgroup word has been traced.
func firstCosets(words []string) *slowCosets {
	s := &slowCosets{}
	s.add()
	for _, word := range words {
		left, letter, at := s.trace(word, 0)
		for left > 1 {
			s.learn(at, letter, s.add())
			left, letter, at = s.trace(word, 0)
		}
	}
	return s
}

// enumerateByHand returns the table, or nothing if there is none, and the greatest number of
// cosets ahead of which one was defined when nothing new followed.
func enumerateByHand(relations []string, words []string) (table [][]int64, greatest int) {
	s := firstCosets(words)
	for {
		s.traceUntilNothingIsNew(relations, words)
		c, letter, found := s.gap()
		if !found {
			break
		}
		greatest = max(greatest, s.count())
		if s.count() > 400 {
			return nil, greatest
		}
		s.learn(c, letter, s.add())
	}
	if s.count() > 100 {
		return nil, greatest
	}
	var rows [][]int64
	for name := range s.names {
		rows = append(rows, []int64{int64(s.after(name, 0)), int64(s.after(name, 2))})
	}
	return standardByHand(rows), greatest
}

// standardByHand names the cosets that are reached from 0 by their order: each time the next name
// goes to the first step of the first coset that has none.
func standardByHand(table [][]int64) [][]int64 {
	order := []int64{0}
	for i := 0; i < len(order); i++ {
		for _, end := range table[order[i]] {
			if !slices.Contains(order, end) {
				order = append(order, end)
			}
		}
	}
	var named [][]int64
	for _, c := range order {
		var row []int64
		for _, end := range table[c] {
			row = append(row, int64(slices.Index(order, end)))
		}
		named = append(named, row)
	}
	return named
}

// isTableByHand joins the sets of the cosets that lead to each other.
func isTableByHand(table [][]int64) bool {
	count := int64(len(table))
	if count == 0 || count > 100 {
		return false
	}
	columns := make([][]int64, 2)
	set := upTo(count)
	for _, row := range table {
		if len(row) != 2 || min(row[0], row[1]) < 0 || max(row[0], row[1]) >= count {
			return false
		}
		columns[0], columns[1] = append(columns[0], row[0]), append(columns[1], row[1])
	}
	for range count {
		for c, row := range table {
			for _, end := range row {
				least := min(set[c], set[end])
				set[c], set[end] = least, least
			}
		}
	}
	slices.Sort(columns[0])
	slices.Sort(columns[1])
	return slices.Equal(columns[0], upTo(count)) && slices.Equal(columns[1], upTo(count)) && slices.Max(set) == 0
}

// randomRows has two random permutations as columns.
func (s *source) randomRows(count int) [][]int64 {
	table := make([][]int64, count)
	for range 2 {
		column := make([]int64, count)
		for i := range column {
			j := s.below(i + 1)
			column[i] = column[j]
			column[j] = int64(i)
		}
		for i := range table {
			table[i] = append(table[i], column[i])
		}
	}
	return table
}

// roundRows has x leading around so many cosets, and y leading back.
func roundRows(count int64) [][]int64 {
	var table [][]int64
	for c := range count {
		table = append(table, []int64{(c + 1) % count, (c + count - 1) % count})
	}
	return table
}

// sampleTables are those of dessins, and some with more cosets.
func sampleTables() [][][]int64 {
	var sample [][][]int64
	for _, d := range sampleDessins() {
		sample = append(sample, rowsOf(d))
	}
	s := source(80)
	for _, count := range []int{17, 18, 31, 64, 99, 100} {
		sample = append(sample, roundRows(int64(count)))
		for range 5 {
			if table := s.randomRows(count); isTableByHand(table) {
				sample = append(sample, table)
			}
		}
	}
	return sample
}

// notTables are lists that are no tables.
func notTables() map[string][][]int64 {
	bad := map[string][][]int64{
		"nothing":                      nil,
		"no rows":                      {},
		"an empty row":                 {{}},
		"a nil row":                    {nil},
		"one number":                   {{0}},
		"three numbers":                {{0, 0, 0}},
		"a number too great for x":     {{1, 0}},
		"a number too great for y":     {{0, 1}},
		"a negative number for x":      {{-1, 0}},
		"a negative number for y":      {{0, -1}},
		"two pieces":                   {{0, 0}, {1, 1}},
		"two pieces of two":            {{1, 0}, {0, 1}, {3, 3}, {2, 2}},
		"the coset 0 alone":            {{0, 0}, {2, 1}, {1, 2}},
		"the last coset alone":         {{1, 0}, {0, 1}, {2, 2}},
		"x leads two to one":           {{1, 1}, {1, 0}},
		"x leads two to 0":             {{0, 1}, {0, 0}},
		"y leads two to one":           {{1, 1}, {0, 1}},
		"y leads two to 0":             {{1, 0}, {0, 0}},
		"a short row behind good ones": {{1, 0}, {0}},
		"a long row behind good ones":  {{1, 0}, {0, 1, 0}},
		"an empty row ahead of a row":  {{}, {0, 0}},
		"a number of 256":              {{256, 0}},
		"a number of 2^32":             {{0, 1 << 32}},
		"the least number":             {{-1 << 63, 0}},
		"the greatest number":          {{0, 1<<63 - 1}},
		"x not in range in the end":    {{1, 0}, {2, 1}},
		"101 cosets":                   roundRows(101),
		"1000 cosets":                  roundRows(1000),
		"100 rows of three":            slices.Repeat([][]int64{{0, 0, 0}}, 100),
		"a row for each place is left": slices.Repeat([][]int64{{0, 0}}, 100),
	}
	broken := roundRows(100)
	broken[99] = []int64{100, 98}
	bad["100 cosets and a step to the next"] = broken
	stopped := roundRows(100)
	stopped[50][0] = 50
	bad["100 cosets, and x leads two to one"] = stopped
	return bad
}
