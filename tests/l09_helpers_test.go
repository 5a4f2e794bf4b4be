package tests

import (
	"math"
	"slices"
	"strconv"
	"testing"

	"loop.example/g01200/impl"
)

// voltages are the numbers modulo m of darts on the ways with Black and with White.
type voltages struct {
	m     int64
	black []int64
	white []int64
}

// remainder is in 0..m - 1 for negative numbers, too.
func remainder(x, m int64) int64 { return (x%m + m) % m }

// numbers are count ones from least to greatest.
func (s *source) numbers(count, least, greatest int64) []int64 {
	var list []int64
	for range count {
		list = append(list, least+int64(s.below(int(greatest-least+1))))
	}
	return list
}

func (s *source) voltages(d impl.Dessin, m int64) voltages {
	return voltages{m, s.numbers(d.Darts, 0, m-1), s.numbers(d.Darts, 0, m-1)}
}

// alongSteps gives each way the difference of the heights of the darts at its ends, which sum up to
// 0 around all vertices and faces.
func alongSteps(d impl.Dessin, m int64, heights []int64) voltages {
	v := voltages{m: m}
	for x := range d.Darts {
		v.black = append(v.black, remainder(heights[d.Black[x]]-heights[x], m))
		v.white = append(v.white, remainder(heights[d.White[x]]-heights[x], m))
	}
	return v
}

// acrossCycle counts how often a way crosses the edges of a cycle, if each dart is thought of as
// beside its edge: on the right one as seen from the black vertex. So a way with Black begins with
// crossing its edge to the left, and one with White ends with crossing the edge where it comes to.
func acrossCycle(d impl.Dessin, m int64, cycle []int64) voltages {
	v := voltages{m: m}
	for x := range d.Darts {
		v.black = append(v.black, remainder(cycle[x], m))
		v.white = append(v.white, remainder(-cycle[d.White[x]], m))
	}
	return v
}

func (v voltages) plus(w voltages) voltages {
	sum := voltages{m: v.m}
	for x := range v.black {
		sum.black = append(sum.black, (v.black[x]+w.black[x])%v.m)
		sum.white = append(sum.white, (v.white[x]+w.white[x])%v.m)
	}
	return sum
}

// unbranched are voltages across a cycle, and others along the steps.
func (s *source) unbranched(d impl.Dessin, m int64) voltages {
	return acrossCycle(d, m, s.cycle(d)).plus(alongSteps(d, m, s.numbers(d.Darts, 0, m-1)))
}

// sampleVoltages are some modulo each of some numbers: random and unbranched ones, the least ones
// and the greatest ones.
func (s *source) sampleVoltages(d impl.Dessin, moduli ...int64) []voltages {
	var sample []voltages
	for _, m := range moduli {
		zeros, most := make([]int64, d.Darts), slices.Repeat([]int64{m - 1}, int(d.Darts))
		sample = append(sample, s.voltages(d, m), s.unbranched(d, m))
		sample = append(sample, voltages{m, zeros, zeros}, voltages{m, most, most})
	}
	return sample
}

// allVoltages are all modulo m.
func allVoltages(n, m int64) []voltages {
	lists := [][]int64{nil}
	for range 2 * n {
		var longer [][]int64
		for _, list := range lists {
			for number := range m {
				longer = append(longer, append(slices.Clone(list), number))
			}
		}
		lists = longer
	}
	var all []voltages
	for _, list := range lists {
		all = append(all, voltages{m, list[:n], list[n:]})
	}
	return all
}

// spare has room with other numbers behind the lists.
func (v voltages) spare() voltages {
	return voltages{v.m, withSpare(v.black), withSpare(v.white)}
}

func (v voltages) checkKept(t *testing.T, name string, want voltages) {
	t.Helper()
	checkSpareKept(t, name, v.black, want.black)
	checkSpareKept(t, name, v.white, want.white)
}

// sumsByHand sums up what walks around the vertices, and against the Face permutation around the
// faces, add.
func (v voltages) sumsByHand(d impl.Dessin) [][]int64 {
	sums := make([][]int64, 3)
	for i, p := range []impl.Places{d.Black, d.White, faceByHand(d)} {
		for _, cycle := range cyclesByHand(p, d.Darts) {
			x, number := cycle[0], int64(0)
			for range cycle {
				x, number = v.walkByHand(d, x, number, []string{"b", "w", "bw"}[i])
			}
			sums[i] = append(sums[i], number)
		}
	}
	return sums
}

func (v voltages) isUnbranchedByHand(d impl.Dessin) bool {
	return slices.Max(slices.Concat(v.sumsByHand(d)...)) == 0
}

// walkByHand follows the darts of d, and adds what is on the way.
func (v voltages) walkByHand(d impl.Dessin, x, i int64, word string) (int64, int64) {
	forth := func(p impl.Places, numbers []int64) { x, i = int64(p[x]), (i+numbers[x])%v.m }
	back := func(p impl.Places, numbers []int64) {
		x = int64(slices.Index(p[:d.Darts], byte(x)))
		i = remainder(i-numbers[x], v.m)
	}
	for _, letter := range word {
		switch letter {
		case 'b':
			forth(d.Black, v.black)
		case 'w':
			forth(d.White, v.white)
		case 'B':
			back(d.Black, v.black)
		case 'W':
			back(d.White, v.white)
		case 'f':
			back(d.White, v.white)
			back(d.Black, v.black)
		case 'F':
			forth(d.Black, v.black)
			forth(d.White, v.white)
		}
	}
	return x, i
}

// notVoltages are none for a dessin of three darts.
func notVoltages() map[string]voltages {
	good, long := []int64{0, 1, 2}, []int64{0, 1, 2, 0}
	bad := map[string]voltages{
		"no lists":            {3, nil, nil},
		"no black list":       {3, nil, good},
		"no white list":       {3, good, nil},
		"a short black list":  {3, good[:2], good},
		"a short white list":  {3, good, good[:2]},
		"short lists":         {3, good[:2], good[:2]},
		"a long black list":   {3, long, good},
		"a long white list":   {3, good, long},
		"long lists":          {3, long, long},
		"lists of 16":         {3, make([]int64, 16), make([]int64, 16)},
		"lists of 17":         {3, make([]int64, 17), make([]int64, 17)},
		"1 modulo 1":          {1, []int64{0, 0, 1}, []int64{0, 0, 0}},
		"both too great":      {2, good, good},
		"numbers not below m": {2, []int64{0, 1, 0}, good},
	}
	for _, m := range []int64{0, -1, -3, 17, 18, 256 + 3, 1<<32 + 3, math.MinInt64, math.MaxInt64} {
		bad["modulo "+strconv.FormatInt(m, 10)] = voltages{m, []int64{0, 0, 0}, []int64{0, 0, 0}}
	}
	for _, number := range []int64{-1, 3, 4, -3, 256, 1 << 32, math.MinInt64, math.MaxInt64} {
		for x := range good {
			list := slices.Clone(good)
			list[x] = number
			name := strconv.FormatInt(number, 10) + " at " + strconv.Itoa(x)
			bad["black "+name] = voltages{3, list, good}
			bad["white "+name] = voltages{3, good, list}
		}
	}
	return bad
}

// cycleName names the cycle of a dart by the least dart in it.
func cycleName(kind string, p impl.Places, x int64) string {
	least := x
	for y := int64(p[x]); y != x; y = int64(p[y]) {
		least = min(least, y)
	}
	return kind + strconv.FormatInt(least, 10)
}

// endsByHand names for each edge two places that it connects: its vertices, or the faces beside it,
// the first one being that of the edge itself.
func endsByHand(d impl.Dessin, faces bool) [][2]string {
	var ends [][2]string
	around := faceByHand(d)
	for x := range d.Darts {
		if faces {
			before := int64(slices.Index(d.Black[:d.Darts], byte(x)))
			ends = append(ends, [2]string{cycleName("f", around, x), cycleName("f", around, before)})
		} else {
			ends = append(ends, [2]string{cycleName("b", d.Black, x), cycleName("w", d.White, x)})
		}
	}
	return ends
}

// joinByHand tells whether some edges connect two places.
func joinByHand(ends [][2]string, edges []int64, a, b string) bool {
	reached := map[string]bool{a: true}
	for range edges {
		for _, x := range edges {
			if reached[ends[x][0]] || reached[ends[x][1]] {
				reached[ends[x][0]], reached[ends[x][1]] = true, true
			}
		}
	}
	return reached[b]
}

// splitByHand tells which edges connect what those before do not connect.
func splitByHand(ends [][2]string, edges []int64) (connecting, others []int64) {
	for _, x := range edges {
		if joinByHand(ends, connecting, ends[x][0], ends[x][1]) {
			others = append(others, x)
		} else {
			connecting = append(connecting, x)
		}
	}
	return connecting, others
}

func treeEdgesByHand(d impl.Dessin) (tree, others []int64) {
	return splitByHand(endsByHand(d, false), upTo(d.Darts))
}

func leftEdgesByHand(d impl.Dessin) []int64 {
	_, others := treeEdgesByHand(d)
	_, left := splitByHand(endsByHand(d, true), others)
	return left
}

// wayByHand is a way through edges of a tree from one place to another one.
func wayByHand(ends [][2]string, tree []int64, from, to string) ([]int64, bool) {
	if from == to {
		return nil, true
	}
	for i, x := range tree {
		for side, place := range ends[x] {
			if place != from {
				continue
			}
			rest := slices.Concat(tree[:i], tree[i+1:])
			if way, found := wayByHand(ends, rest, ends[x][1-side], to); found {
				return append([]int64{x}, way...), true
			}
		}
	}
	return nil, false
}

// roundByHand lists the edges of the cycle of an edge x, which is none of the tree edges: x, and
// those of the way back through the tree.
func roundByHand(d impl.Dessin, tree []int64, x int64) []int64 {
	ends := endsByHand(d, false)
	way, _ := wayByHand(ends, tree, ends[x][1], ends[x][0])
	return append([]int64{x}, way...)
}

// cycleOfRound takes each second edge from its white vertex to its black one.
func cycleOfRound(n int64, round []int64) []int64 {
	cycle := make([]int64, n)
	for i, x := range round {
		cycle[x] = 1 - 2*int64(i%2)
	}
	return cycle
}

// cyclesOfEdges are the cycles of all edges that are no tree edges.
func cyclesOfEdges(d impl.Dessin) [][]int64 {
	tree, others := treeEdgesByHand(d)
	var cycles [][]int64
	for _, x := range others {
		cycles = append(cycles, cycleOfRound(d.Darts, roundByHand(d, tree, x)))
	}
	return cycles
}

// addTimes adds so many times a list to another one.
func addTimes(list []int64, times int64, other []int64) {
	for i := range list {
		list[i] += times * other[i]
	}
}

// sumOfMultiples is one of some chains of n numbers.
func (s *source) sumOfMultiples(n int64, chains [][]int64) []int64 {
	sum := make([]int64, n)
	for _, chain := range chains {
		addTimes(sum, int64(s.below(7)-3), chain)
	}
	return sum
}

// cycle is a random one.
func (s *source) cycle(d impl.Dessin) []int64 { return s.sumOfMultiples(d.Darts, cyclesOfEdges(d)) }

func isCycleByHand(d impl.Dessin, chain []int64) bool {
	for _, p := range []impl.Places{d.Black, d.White} {
		for first := range byte(d.Darts) {
			sum := chain[first]
			for x := p[first]; x != first; x = p[x] {
				sum += chain[x]
			}
			if sum != 0 {
				return false
			}
		}
	}
	return true
}

// boundariesByHand look at each edge whether it is taken forth, back, or both.
func boundariesByHand(d impl.Dessin) [][]int64 {
	var boundaries [][]int64
	for _, around := range cyclesByHand(faceByHand(d), d.Darts) {
		boundary := make([]int64, d.Darts)
		for x := range d.Darts {
			before := int64(slices.Index(d.Black[:d.Darts], byte(x)))
			if slices.Contains(around, before) {
				boundary[x]++
			}
			if slices.Contains(around, x) {
				boundary[x]--
			}
		}
		boundaries = append(boundaries, boundary)
	}
	return boundaries
}

// isBoundingByHand looks for a multiple of each boundary: from that of one face, which may be 0,
// each edge tells how it differs from that of the face beside it.
func isBoundingByHand(d impl.Dessin, chain []int64) bool {
	faces := endsByHand(d, true)
	multiples := map[string]int64{faces[0][0]: 0}
	for range d.Darts {
		for x := range d.Darts {
			back, forth := faces[x][0], faces[x][1]
			if multiple, known := multiples[back]; known {
				multiples[forth] = multiple + chain[x]
			}
			if multiple, known := multiples[forth]; known {
				multiples[back] = multiple - chain[x]
			}
		}
	}
	for x := range d.Darts {
		if multiples[faces[x][1]]-multiples[faces[x][0]] != chain[x] {
			return false
		}
	}
	return true
}

// twiceIntersectionByHand sums up over all pairs of darts at the same vertex.
func twiceIntersectionByHand(d impl.Dessin, a, b []int64) int64 {
	sum := int64(0)
	for _, vertex := range append(cyclesByHand(d.Black, d.Darts), cyclesByHand(d.White, d.Darts)...) {
		for i, x := range vertex {
			for j, y := range vertex {
				if i < j {
					sum += a[x] * b[y]
				}
				if i > j {
					sum -= a[x] * b[y]
				}
			}
		}
	}
	return sum
}

// determinantByHand divides by the last leading number only, which leaves no remainders.
func determinantByHand(rows [][]int64) int64 {
	rows = copyLists(rows)
	sign, last := int64(1), int64(1)
	for k := range rows {
		pivot := k
		for pivot < len(rows) && rows[pivot][k] == 0 {
			pivot++
		}
		if pivot == len(rows) {
			return 0
		}
		if pivot != k {
			rows[pivot], rows[k] = rows[k], rows[pivot]
			sign = -sign
		}
		for i := k + 1; i < len(rows); i++ {
			for j := k + 1; j < len(rows); j++ {
				rows[i][j] = (rows[i][j]*rows[k][k] - rows[i][k]*rows[k][j]) / last
			}
		}
		last = rows[k][k]
	}
	return sign * last
}

// notChains are none for a dessin of three darts.
func notChains() map[string][]int64 {
	bad := map[string][]int64{
		"nothing":          nil,
		"no numbers":       {},
		"one number":       {0},
		"two numbers":      {1, -1},
		"four numbers":     {0, 0, 0, 0},
		"sixteen numbers":  make([]int64, 16),
		"seventeen zeros":  make([]int64, 17),
		"too great a pair": {1001, -1001, 0},
		"both":             {1001, -1001, 0, 0},
	}
	for _, number := range []int64{1001, -1001, 1 << 32, math.MinInt64, math.MaxInt64} {
		for x := range 3 {
			chain := make([]int64, 3)
			chain[x] = number
			bad[strconv.FormatInt(number, 10)+" at "+strconv.Itoa(x)] = chain
		}
	}
	return bad
}
