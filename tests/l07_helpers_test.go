package tests

import (
	"math"
	"slices"
	"strconv"
	"strings"
	"testing"

	"loop.example/g01200/impl"
)

// exchangeLetters tell Black and White of each exchange, and the type of its Face, by those of the
// dessin.
func exchangeLetters() []string { return []string{"BWF", "WBF", "WFB", "FBW", "BFW", "FWB"} }

// wilsonLetters tell Corner, Side and P behind each of Wilson's operations by those ahead of it.
func wilsonLetters() []string { return []string{"CSP", "SCP", "PSC", "SPC", "CPS", "PCS"} }

// bothTurned tells which of some letters stand for two of them, one after the other.
func bothTurned(letters []string, first, second int) int {
	both := ""
	for _, letter := range letters[second] {
		at := strings.IndexRune(letters[0], letter)
		both += letters[first][at : at+1]
	}
	return slices.Index(letters, both)
}

func exchangeByHand(d impl.Dessin, k int) impl.Dessin {
	permutations := map[byte]impl.Places{'B': d.Black, 'W': d.White, 'F': faceByHand(d)}
	letters := exchangeLetters()[k]
	return impl.Dessin{Darts: d.Darts, Black: permutations[letters[0]], White: permutations[letters[1]]}
}

func mirrorByHand(d impl.Dessin) impl.Dessin {
	return impl.Dessin{Darts: d.Darts, Black: backByHand(d.Black, d.Darts), White: backByHand(d.White, d.Darts)}
}

func alikeByHand(d, e impl.Dessin) bool { return len(isomorphismsByHand(d, e)) > 0 }

func genusByHand(d impl.Dessin) int64 { return 1 - eulerByHand(d)/2 }

func isCleanByHand(d impl.Dessin) bool {
	return !slices.ContainsFunc(typeByHand(d.White, d.Darts), func(x int64) bool { return x != 2 })
}

// subdividedByHand has the vertices of both colours as black ones, and the darts as edges.
func subdividedByHand(d impl.Dessin) impl.Dessin {
	n := d.Darts
	vertices := cyclesByHand(d.Black, n)
	for _, cycle := range cyclesByHand(d.White, n) {
		for i := range cycle {
			cycle[i] += n
		}
		vertices = append(vertices, cycle)
	}
	var edges [][]int64
	for x := range n {
		edges = append(edges, []int64{x, x + n})
	}
	black, _ := impl.PlacesOfCycles(vertices, 2*n)
	white, _ := impl.PlacesOfCycles(edges, 2*n)
	return impl.Dessin{Darts: 2 * n, Black: black, White: white}
}

// flagsByHand tells of each flag by itself where it is led.
func flagsByHand(d impl.Dessin) impl.Flags {
	f := impl.Flags{Count: 2 * d.Darts}
	back := backByHand(d.Black, d.Darts)
	for i := range 2 * d.Darts {
		x := i / 2
		if i%2 == 0 {
			f.Corner[i], f.Side[i], f.Turn[i] = 2*d.White[x]+1, byte(i+1), 2*back[x]+1
		} else {
			f.Corner[i], f.Side[i], f.Turn[i] = 2*d.White[x], byte(i-1), 2*d.Black[x]
		}
	}
	return f
}

// thenList is one list of flags and then another one.
func thenList(first, second [32]byte, count int64) [32]byte {
	var list [32]byte
	for x := range count {
		list[x] = second[first[x]]
	}
	return list
}

func turnedByHand(f impl.Flags, k int) impl.Flags {
	lists := map[byte][32]byte{'C': f.Corner, 'S': f.Side, 'P': thenList(f.Corner, f.Side, f.Count)}
	letters := wilsonLetters()[k]
	return impl.Flags{Count: f.Count, Corner: lists[letters[0]], Turn: f.Turn, Side: lists[letters[1]]}
}

// piecesByHand gives each number the least one of those that lists connect with it.
func piecesByHand(count int64, lists ...[]byte) []byte {
	var piece []byte
	for x := range byte(count) {
		piece = append(piece, x)
	}
	for range count {
		for _, list := range lists {
			for x, y := range list[:count] {
				least := min(piece[x], piece[y])
				piece[x], piece[y] = least, least
			}
		}
	}
	return piece
}

func degreesByHand(f impl.Flags, a, b [32]byte) []int64 {
	sizes := make([]int64, f.Count)
	for _, least := range piecesByHand(f.Count, a[:], b[:]) {
		sizes[least]++
	}
	var degrees []int64
	for _, size := range sizes {
		if size > 0 {
			degrees = append(degrees, size/2)
		}
	}
	slices.SortFunc(degrees, func(x, y int64) int { return int(y - x) })
	return degrees
}

// shape is what is told of flags.
type shape struct {
	vertices   []int64
	faces      []int64
	zigzags    []int64
	euler      int64
	orientable bool
}

func shapeByHand(f impl.Flags) shape {
	s := shape{
		vertices:   degreesByHand(f, f.Turn, f.Side),
		faces:      degreesByHand(f, f.Turn, f.Corner),
		zigzags:    degreesByHand(f, f.Turn, thenList(f.Corner, f.Side, f.Count)),
		orientable: zeroClassByHand(f) != nil,
	}
	// Each edge has four flags.
	s.euler = int64(len(s.vertices)+len(s.faces)) - f.Count/4
	return s
}

func (s shape) equal(other shape) bool {
	return slices.Equal(s.vertices, other.vertices) && slices.Equal(s.faces, other.faces) &&
		slices.Equal(s.zigzags, other.zigzags) && s.euler == other.euler && s.orientable == other.orientable
}

// shapeOf is what the program tells of flags.
func shapeOf(t *testing.T, f impl.Flags) shape {
	t.Helper()
	var s shape
	codes := make([]int64, 5)
	s.vertices, codes[0] = impl.VertexDegrees(f)
	s.faces, codes[1] = impl.FaceDegrees(f)
	s.zigzags, codes[2] = impl.ZigzagDegrees(f)
	s.euler, codes[3] = impl.EulerOfFlags(f)
	s.orientable, codes[4] = impl.IsOrientable(f)
	if slices.Max(codes) != impl.ErrNone {
		t.Fatalf("the shape of %v has the codes %v", f, codes)
	}
	return s
}

// zeroClassByHand takes two copies of the flags, and each list as leading from one copy to the
// other: the copies of 0 hang together exactly if there are no classes.
func zeroClassByHand(f impl.Flags) []byte {
	var doubled [][]byte
	for _, list := range [][32]byte{f.Corner, f.Turn, f.Side} {
		var both []byte
		for x := range f.Count {
			both = append(both, list[x]+byte(f.Count))
		}
		doubled = append(doubled, append(both, list[:f.Count]...))
	}
	piece := piecesByHand(2*f.Count, doubled...)
	if piece[f.Count] == piece[0] {
		return nil
	}
	var class []byte
	for x := range byte(f.Count) {
		if piece[x] == piece[0] {
			class = append(class, x)
		}
	}
	return class
}

// mapByHand is the map of orientable flags.
func mapByHand(f impl.Flags) impl.Dessin {
	darts := zeroClassByHand(f)
	d := impl.Dessin{Darts: int64(len(darts))}
	for i, x := range darts {
		d.Black[i] = byte(slices.Index(darts, f.Turn[f.Side[x]]))
		d.White[i] = byte(slices.Index(darts, f.Corner[f.Side[x]]))
	}
	return d
}

func areFlagsByHand(f impl.Flags) bool {
	across, other := thenList(f.Corner, f.Side, f.Count), thenList(f.Side, f.Corner, f.Count)
	for x := range byte(f.Count) {
		for _, list := range [][32]byte{f.Corner, f.Turn, f.Side} {
			if list[x] == x || list[list[x]] != x {
				return false
			}
		}
		if across[x] == x || across[x] != other[x] {
			return false
		}
	}
	return slices.Max(piecesByHand(f.Count, f.Corner[:], f.Turn[:], f.Side[:])) == 0
}

// renamedFlags renames the flags at random.
func (s *source) renamedFlags(f impl.Flags) impl.Flags {
	names := make([]byte, f.Count)
	for x := range names {
		y := s.below(x + 1)
		names[x], names[y] = names[y], byte(x)
	}
	renamed := impl.Flags{Count: f.Count}
	for x := range f.Count {
		renamed.Corner[names[x]] = names[f.Corner[x]]
		renamed.Turn[names[x]] = names[f.Turn[x]]
		renamed.Side[names[x]] = names[f.Side[x]]
	}
	return renamed
}

// edgeFlags have so many flags, four by four at the edges, and no Turn yet.
func edgeFlags(count int64) impl.Flags {
	f := impl.Flags{Count: count}
	for x := range byte(count) {
		f.Corner[x], f.Side[x] = x^2, x^1
	}
	return f
}

// allTurns returns all lists that exchange pairs of so many flags.
func allTurns(count int64) [][32]byte {
	var all [][32]byte
	var extend func(list [32]byte, left []byte)
	extend = func(list [32]byte, left []byte) {
		if len(left) == 0 {
			all = append(all, list)
			return
		}
		x := left[0]
		for i := 1; i < len(left); i++ {
			list[x], list[left[i]] = left[i], x
			extend(list, slices.Concat(left[1:i], left[i+1:]))
		}
	}
	var flags []byte
	for x := range byte(count) {
		flags = append(flags, x)
	}
	extend([32]byte{}, flags)
	return all
}

// randomTurn exchanges random pairs of so many flags.
func (s *source) randomTurn(count int64) [32]byte {
	var left []byte
	for x := range byte(count) {
		left = append(left, x)
	}
	var list [32]byte
	for len(left) > 0 {
		i := 1 + s.below(len(left)-1)
		list[left[0]], list[left[i]] = left[i], left[0]
		left = slices.Delete(left, i, i+1)[1:]
	}
	return list
}

// sampleMaps are all maps of 2 and 4 darts, some with each greater even number, known ones, and
// subdivided dessins.
func sampleMaps(t *testing.T) []impl.Dessin {
	t.Helper()
	var maps []impl.Dessin
	for _, d := range append(allDessins(2), allDessins(4)...) {
		if isCleanByHand(d) {
			maps = append(maps, d)
		}
	}
	s := source(7)
	for n := int64(6); n <= 16; n += 2 {
		for range 40 {
			turn := s.randomTurn(n)
			if d := (impl.Dessin{Darts: n, Black: s.places(n), White: impl.Places(turn[:16])}); joinsAll(d) {
				maps = append(maps, d)
			}
		}
	}
	for _, known := range knownMaps() {
		d := mustParse(t, known.text)
		maps = append(maps, d, withOtherNames(d))
	}
	for i, d := range sampleDessins() {
		if d.Darts <= 8 && i%5 == 0 {
			maps = append(maps, subdividedByHand(d))
		}
	}
	return maps
}

// sampleFlags are those of maps, what Wilson's operations make of them, all of 4 flags, those of 8
// flags and some with more; the flags are renamed, too.
func sampleFlags(t *testing.T) []impl.Flags {
	t.Helper()
	s := source(71)
	var sample []impl.Flags
	for i, d := range sampleMaps(t) {
		f := flagsByHand(d)
		sample = append(sample, f, s.renamedFlags(turnedByHand(f, i%6)))
	}
	var turns []impl.Flags
	for _, count := range []int64{4, 8} {
		for _, turn := range allTurns(count) {
			f := edgeFlags(count)
			f.Turn = turn
			turns = append(turns, f)
		}
	}
	for count := int64(12); count <= 32; count += 4 {
		for range 40 {
			f := edgeFlags(count)
			f.Turn = s.randomTurn(count)
			turns = append(turns, f)
		}
	}
	for _, f := range turns {
		if areFlagsByHand(f) {
			sample = append(sample, f, s.renamedFlags(f))
		}
	}
	return sample
}

// The texts of two maps.
const (
	tetrahedron = "12|(0 1 2)(3 4 5)(6 7 8)(9 10 11)|(0 3)(1 6)(2 9)(4 11)(5 7)(8 10)"
	pyramid     = "16|(0 1 2 3)(4 5 6)(7 8 9)(10 11 12)(13 14 15)|(0 4)(1 7)(2 10)(3 13)(5 15)(6 8)(9 11)(12 14)"
)

// knownMap is a map with what is known of it.
type knownMap struct {
	name     string
	text     string
	vertices []int64
	faces    []int64
	zigzags  []int64
	euler    int64
}

func knownMaps() []knownMap {
	twos := func(n int) []int64 { return slices.Repeat([]int64{2}, n) }
	return []knownMap{
		{"one edge", "2|()|(0 1)", ones(2), twos(1), twos(1), 2},
		{"a loop", "2|(0 1)|(0 1)", twos(1), ones(2), twos(1), 2},
		{"two edges", "4|(1 2)|(0 1)(2 3)", []int64{2, 1, 1}, []int64{4}, []int64{4}, 2},
		{"two loops side by side", "4|(0 1 2 3)|(0 1)(2 3)", []int64{4}, []int64{2, 1, 1}, []int64{4}, 2},
		{"two loops on a torus", "4|(0 1 2 3)|(0 2)(1 3)", []int64{4}, []int64{4}, twos(2), 0},
		{"two edges with the same ends", "4|(0 1)(2 3)|(0 2)(1 3)", twos(2), twos(2), twos(2), 2},
		{"an edge in a loop", "4|(0 1 2)|(0 1)(2 3)", []int64{3, 1}, []int64{3, 1}, []int64{4}, 2},
		{"three edges with the same ends", "6|(0 1 2)(3 4 5)|(0 3)(1 5)(2 4)", []int64{3, 3}, twos(3), []int64{6}, 2},
		{"three such edges on a torus", "6|(0 1 2)(3 4 5)|(0 3)(1 4)(2 5)", []int64{3, 3}, []int64{6}, twos(3), 0},
		{"three loops on a torus", "6|(0 1 2 3 4 5)|(0 3)(1 4)(2 5)", []int64{6}, []int64{3, 3}, twos(3), 0},
		{"the triangle", "6|(0 1)(2 3)(4 5)|(0 2)(1 4)(3 5)", twos(3), []int64{3, 3}, []int64{6}, 2},
		{"the square", "8|(0 1)(2 3)(4 5)(6 7)|(0 2)(1 6)(3 4)(5 7)", twos(4), []int64{4, 4}, []int64{4, 4}, 2},
		{"four loops on two holes", "8|(0 1 2 3 4 5 6 7)|(0 4)(1 5)(2 6)(3 7)", []int64{8}, []int64{8}, twos(4), -2},
		{"squares on a torus", "8|(0 1 2 3)(4 5 6 7)|(0 4)(1 5)(2 6)(3 7)", []int64{4, 4}, []int64{4, 4}, twos(4), 0},
		{"the tetrahedron", tetrahedron, []int64{3, 3, 3, 3}, []int64{3, 3, 3, 3}, []int64{4, 4, 4}, 2},
		{"the pyramid", pyramid, []int64{4, 3, 3, 3, 3}, []int64{4, 3, 3, 3, 3}, []int64{16}, 2},
		{"the octagon", "16|(0 1)(2 3)(4 5)(6 7)(8 9)(10 11)(12 13)(14 15)|(0 3)(1 14)(2 5)(4 7)(6 9)(8 11)(10 13)(12 15)", twos(8), []int64{8, 8}, []int64{8, 8}, 2},
	}
}

// bouquet are the flags of loops at one vertex, each of which crosses all others.
func bouquet(count int64) impl.Flags {
	d := impl.Dessin{Darts: count / 2}
	for x := range d.Darts {
		d.Black[x], d.White[x] = byte((x+1)%d.Darts), byte((x+d.Darts/2)%d.Darts)
	}
	return flagsByHand(d)
}

// swapping exchanges the first two of some flags, the next two, and so on.
func swapping(flags ...byte) [32]byte {
	var list [32]byte
	for i := 0; i < len(flags); i += 2 {
		list[flags[i]], list[flags[i+1]] = flags[i+1], flags[i]
	}
	return list
}

// notFlags are structs that are no flags.
func notFlags() map[string]impl.Flags {
	bad := map[string]impl.Flags{
		"the zero value":                {},
		"P changes nothing":             {Count: 4, Corner: swapping(0, 1, 2, 3), Turn: swapping(0, 2, 1, 3), Side: swapping(0, 1, 2, 3)},
		"P changes four of eight":       {Count: 8, Corner: swapping(0, 1, 2, 3, 4, 6, 5, 7), Turn: swapping(0, 2, 1, 4, 3, 5, 6, 7), Side: swapping(0, 1, 2, 3, 4, 5, 6, 7)},
		"P in two orders":               {Count: 8, Corner: swapping(0, 1, 2, 3, 4, 5, 6, 7), Turn: swapping(0, 4, 1, 5, 2, 6, 3, 7), Side: swapping(1, 2, 3, 4, 5, 6, 7, 0)},
		"P in two orders at the end":    {Count: 12, Corner: swapping(0, 1, 2, 3, 4, 5, 6, 7, 8, 9, 10, 11), Turn: swapping(0, 4, 1, 5, 2, 6, 3, 7, 8, 10, 9, 11), Side: swapping(0, 2, 1, 3, 5, 6, 7, 8, 9, 10, 11, 4)},
		"two flags":                     {Count: 2, Corner: swapping(0, 1), Turn: swapping(0, 1), Side: swapping(0, 1)},
		"six flags":                     {Count: 6, Corner: swapping(0, 1, 2, 3, 4, 5), Turn: swapping(1, 2, 3, 4, 5, 0), Side: swapping(0, 1, 2, 3, 4, 5)},
		"a Corner of four":              {Count: 4, Corner: [32]byte{1, 2, 3, 0}, Turn: swapping(0, 1, 2, 3), Side: swapping(0, 2, 1, 3)},
		"a Turn of four":                {Count: 4, Corner: swapping(0, 1, 2, 3), Turn: [32]byte{1, 2, 3, 0}, Side: swapping(0, 2, 1, 3)},
		"a Side of four":                {Count: 4, Corner: swapping(0, 2, 1, 3), Turn: swapping(0, 1, 2, 3), Side: [32]byte{1, 2, 3, 0}},
		"a Corner and a Side of four":   {Count: 4, Corner: [32]byte{1, 2, 3, 0}, Turn: swapping(0, 1, 2, 3), Side: [32]byte{1, 2, 3, 0}},
		"a Turn that changes two flags": {Count: 4, Corner: swapping(0, 1, 2, 3), Turn: [32]byte{1, 0, 2, 3}, Side: swapping(0, 2, 1, 3)},
		"a Turn that changes nothing":   {Count: 4, Corner: swapping(0, 1, 2, 3), Turn: [32]byte{0, 1, 2, 3}, Side: swapping(0, 2, 1, 3)},
	}
	for _, count := range []int64{0, -1, -4, -24, 1, 2, 3, 4, 20, 23, 25, 28, 32, 33, 36, 256, 280, 1<<32 + 24, math.MinInt64, math.MinInt64 + 24, math.MaxInt64, math.MaxInt64 - 3} {
		f := bouquet(24)
		f.Count = count
		bad["a Count of "+strconv.FormatInt(count, 10)] = f
	}
	for count := int64(8); count <= 32; count += 4 {
		f := edgeFlags(count)
		for name, turn := range map[string][32]byte{"Corner": f.Corner, "Side": f.Side, "P": thenList(f.Corner, f.Side, count)} {
			f.Turn = turn
			bad[strconv.FormatInt(count, 10)+" flags turned as by "+name] = f
		}
		bad[strconv.FormatInt(count, 10)+" flags with four apart"] = withFourApart(bouquet(count - 4))
	}
	for _, count := range []int64{4, 8, 28, 32} {
		addBrokenLists(bad, bouquet(count))
	}
	return bad
}

// withFourApart adds the flags of a loop that nothing connects with the others.
func withFourApart(f impl.Flags) impl.Flags {
	more, loop := f, bouquet(4)
	more.Count += 4
	for x := range byte(4) {
		at := byte(f.Count) + x
		more.Corner[at], more.Turn[at], more.Side[at] = byte(f.Count)+loop.Corner[x], byte(f.Count)+loop.Turn[x], byte(f.Count)+loop.Side[x]
	}
	return more
}

// addBrokenLists changes one number of one list.
func addBrokenLists(bad map[string]impl.Flags, f impl.Flags) {
	lists := [3][32]byte{f.Corner, f.Turn, f.Side}
	for i, name := range []string{"Corner", "Turn", "Side"} {
		for x := range byte(32) {
			others := []byte{1, byte(f.Count), 128, 255}
			if int64(x) < f.Count {
				others = []byte{x, x ^ 4, byte(f.Count), 32, 128, 255}
			}
			for _, y := range others {
				broken := lists
				broken[i][x] = y
				if broken != lists {
					at := strconv.Itoa(int(f.Count)) + " flags: " + name + " from " + strconv.Itoa(int(x)) + " to " + strconv.Itoa(int(y))
					bad[at] = impl.Flags{Count: f.Count, Corner: broken[0], Turn: broken[1], Side: broken[2]}
				}
			}
		}
	}
}
