package tests

import (
	"slices"
	"strings"
	"testing"

	"loop.example/g01200/impl"
)

// wordsByHand lists all words of n edges in lexicographic order, by the bits of numbers.
func wordsByHand(n int) []string {
	var words []string
	for bits := range 1 << (2 * n) {
		text := make([]byte, 2*n)
		for i := range text {
			text[i] = "()"[bits>>(2*n-1-i)&1]
		}
		if isWordByHand(string(text)) {
			words = append(words, string(text))
		}
	}
	return words
}

// isWordByHand takes matching neighbours away until nothing is left.
func isWordByHand(text string) bool {
	if len(text) < 2 || len(text) > 32 {
		return false
	}
	for strings.Contains(text, "()") {
		text = strings.ReplaceAll(text, "()", "")
	}
	return text == ""
}

// treeByHand walks around the tree: with each bracket along an edge, from a vertex of one colour
// to one of the other; there the edge of the next bracket is the next one.
func treeByHand(word string) impl.Dessin {
	var edges, open []byte
	count := byte(0)
	for _, bracket := range word {
		if bracket == '(' {
			open = append(open, count)
			count++
			edges = append(edges, count-1)
		} else {
			edges = append(edges, open[len(open)-1])
			open = open[:len(open)-1]
		}
	}
	d := impl.Dessin{Darts: int64(count)}
	for i, x := range edges {
		next := edges[(i+1)%len(edges)]
		if i%2 == 0 {
			d.White[x] = next
		} else {
			d.Black[x] = next
		}
	}
	return d
}

// wordByHand walks around a tree from an edge on: an edge is opened where it comes first.
func wordByHand(d impl.Dessin, x int64) string {
	var text strings.Builder
	opened := map[byte]bool{}
	at := byte(x)
	for i := range 2 * d.Darts {
		if opened[at] {
			text.WriteByte(')')
		} else {
			text.WriteByte('(')
		}
		opened[at] = true
		if i%2 == 0 {
			at = d.White[at]
		} else {
			at = d.Black[at]
		}
	}
	return text.String()
}

func allWordsOf(d impl.Dessin) []string {
	var words []string
	for x := range d.Darts {
		words = append(words, wordByHand(d, x))
	}
	return words
}

func isTreeByHand(d impl.Dessin) bool {
	vertices := len(cyclesByHand(d.Black, d.Darts)) + len(cyclesByHand(d.White, d.Darts))
	return len(cyclesByHand(faceByHand(d), d.Darts)) == 1 && int64(vertices) == d.Darts+1
}

// randomWord opens and closes at random where it can.
func randomWord(s *source, n int) string {
	var text []byte
	open, left := 0, n
	for len(text) < 2*n {
		if left > 0 && (open == 0 || s.below(2) == 0) {
			text = append(text, '(')
			open, left = open+1, left-1
		} else {
			text = append(text, ')')
			open--
		}
	}
	return string(text)
}

// longWords are words of 7 to 16 edges, among them long paths, stars of both colours and brooms.
func longWords() []string {
	s := source(5)
	var words []string
	for n := 7; n <= 16; n++ {
		words = append(words, strings.Repeat("(", n)+strings.Repeat(")", n), strings.Repeat("()", n))
		words = append(words, "("+strings.Repeat("()", n-1)+")", strings.Repeat("(()())", n/3)+strings.Repeat("()", n%3))
		words = append(words, strings.Repeat("(", n/2)+strings.Repeat("()", n-n/2)+strings.Repeat(")", n/2))
		for range 25 {
			words = append(words, randomWord(&s, n))
		}
	}
	return words
}

// sampleTrees are all trees of at most 6 edges and some with more, and some renamings of each.
func sampleTrees() []impl.Dessin {
	var words []string
	for n := 1; n <= 6; n++ {
		words = append(words, wordsByHand(n)...)
	}
	var trees []impl.Dessin
	for _, word := range append(words, longWords()...) {
		d := treeByHand(word)
		for _, p := range renamings(d) {
			trees = append(trees, renamedByHand(d, p))
		}
	}
	return trees
}

// notTrees are dessins that are no trees: with more faces, with a greater genus, or with both.
func notTrees(t *testing.T) []impl.Dessin {
	t.Helper()
	var others []impl.Dessin
	for _, d := range sampleDessins() {
		if !isTreeByHand(d) {
			others = append(others, d)
		}
	}
	for n := int64(2); n <= 16; n++ {
		band, _ := impl.BandDessin(n)
		others = append(others, band)
	}
	for _, text := range []string{"3|(0 1 2)|(0 1 2)", "2|(0 1)|(0 1)", "4|(0 1)(2 3)|(0 2)(1 3)", "5|(0 1 2 3 4)|(0 1 2 3 4)"} {
		others = append(others, mustParse(t, text))
	}
	return others
}

// vertexNames tells each edge the numbers of its two vertices, the black ones coming ahead of the
// white ones, and each vertex how it is told as a centre.
func vertexNames(d impl.Dessin) (ends [][2]int, told [][]int64) {
	ends = make([][2]int, d.Darts)
	for colour, p := range []impl.Places{d.Black, d.White} {
		for _, cycle := range cyclesByHand(p, d.Darts) {
			for _, x := range cycle {
				ends[x][colour] = len(told)
			}
			told = append(told, []int64{int64(colour), slices.Min(cycle)})
		}
	}
	return ends, told
}

// distancesByHand tells how far each vertex is from each other one, by Floyd's method.
func distancesByHand(d impl.Dessin) [][]int64 {
	ends, told := vertexNames(d)
	far := make([][]int64, len(told))
	for i := range far {
		far[i] = slices.Repeat([]int64{99}, len(told))
		far[i][i] = 0
	}
	for _, end := range ends {
		far[end[0]][end[1]], far[end[1]][end[0]] = 1, 1
	}
	for k := range far {
		for i := range far {
			for j := range far {
				far[i][j] = min(far[i][j], far[i][k]+far[k][j])
			}
		}
	}
	return far
}

// centreByHand is the vertex from which all others are nearest, or the edge between two of these.
func centreByHand(d impl.Dessin) []int64 {
	ends, told := vertexNames(d)
	var reach []int64
	for _, row := range distancesByHand(d) {
		reach = append(reach, slices.Max(row))
	}
	var nearest []int
	for i, far := range reach {
		if far == slices.Min(reach) {
			nearest = append(nearest, i)
		}
	}
	if len(nearest) == 1 {
		return told[nearest[0]]
	}
	return []int64{2, int64(slices.Index(ends, [2]int{nearest[0], nearest[1]}))}
}

// sumsByHand adds up weights at the vertices.
func sumsByHand(p impl.Places, n int64, weights []int64) []int64 {
	var sums []int64
	for _, cycle := range cyclesByHand(p, n) {
		sum := int64(0)
		for _, x := range cycle {
			sum += weights[x]
		}
		sums = append(sums, sum)
	}
	return sums
}

// withSpare copies a list with some numbers behind it.
func withSpare(list []int64) []int64 { return append(slices.Clone(list), 7, 7, 7)[:len(list)] }

// checkSpareKept fails if what withSpare made has been changed.
func checkSpareKept(t *testing.T, name string, list []int64, want []int64) {
	t.Helper()
	if !slices.Equal(list[:len(want)+3], append(slices.Clone(want), 7, 7, 7)) {
		t.Errorf("%s changes its argument %v to %v", name, want, list[:len(want)+3])
	}
}
