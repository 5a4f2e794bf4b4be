package tests

import (
	"slices"
	"testing"

	"loop.example/g01200/impl"
)

func TestLimitOfFlags(t *testing.T) {
	if impl.MaxFlags != 32 {
		t.Errorf("MaxFlags = %d", impl.MaxFlags)
	}
}

func TestFlagsOf(t *testing.T) {
	for _, d := range sampleMaps(t) {
		f, code := impl.FlagsOf(d)
		if f != flagsByHand(d) || code != impl.ErrNone || !impl.AreFlags(f) {
			t.Fatalf("FlagsOf(%v) = %v, %d", d, f, code)
		}
	}
	want := impl.Flags{Count: 8, Corner: [32]byte{3, 2, 1, 0, 7, 6, 5, 4}, Turn: [32]byte{1, 0, 5, 4, 3, 2, 7, 6}, Side: [32]byte{1, 0, 3, 2, 5, 4, 7, 6}}
	chain, _ := impl.ChainDessin(4)
	if f, code := impl.FlagsOf(chain); f != want || code != impl.ErrNone {
		t.Errorf("FlagsOf(chain of 4) = %v, %d", f, code)
	}
	want = impl.Flags{Count: 8, Corner: [32]byte{5, 4, 7, 6, 1, 0, 3, 2}, Turn: [32]byte{7, 2, 1, 4, 3, 6, 5, 0}, Side: [32]byte{1, 0, 3, 2, 5, 4, 7, 6}}
	if f, code := impl.FlagsOf(mustParse(t, "4|(0 1 2 3)|(0 2)(1 3)")); f != want || code != impl.ErrNone {
		t.Errorf("FlagsOf(two loops on a torus) = %v, %d", f, code)
	}
}

func TestMapsAloneHaveFlags(t *testing.T) {
	others := 0
	for _, d := range sampleDessins() {
		if isCleanByHand(d) {
			continue
		}
		others++
		if f, code := impl.FlagsOf(d); f != (impl.Flags{}) || code != impl.ErrState {
			t.Fatalf("FlagsOf(%v) = %v, %d", d, f, code)
		}
	}
	if others < 200 {
		t.Errorf("only %d other dessins are tested", others)
	}
	for n := int64(1); n <= 16; n++ {
		star, _ := impl.StarDessin(n)
		if f, code := impl.FlagsOf(star); f != (impl.Flags{}) || code != impl.ErrState {
			t.Errorf("FlagsOf(star of %d) = %v, %d", n, f, code)
		}
		chain, _ := impl.ChainDessin(n)
		if f, code := impl.FlagsOf(chain); n%2 == 0 && (f.Count != 2*n || code != impl.ErrNone) || n%2 == 1 && (f != (impl.Flags{}) || code != impl.ErrState) {
			t.Errorf("FlagsOf(chain of %d) = %v, %d", n, f, code)
		}
	}
}

func TestAreFlags(t *testing.T) {
	for _, f := range sampleFlags(t) {
		if !impl.AreFlags(f) {
			t.Fatalf("AreFlags(%v) is false", f)
		}
	}
	for name, f := range notFlags() {
		if impl.AreFlags(f) {
			t.Errorf("%s: AreFlags(%v) is true", name, f)
		}
	}
}

// TestAreFlagsOfFourAndEight tries all permutations of 4 flags as lists, and many lists that
// exchange pairs of 8 flags.
func TestAreFlagsOfFourAndEight(t *testing.T) {
	counts := map[bool]int{}
	check := func(f impl.Flags) {
		want := areFlagsByHand(f)
		counts[want]++
		if impl.AreFlags(f) != want {
			t.Fatalf("AreFlags(%v) is %v", f, !want)
		}
	}
	var lists [][32]byte
	for _, p := range allPlaces(4) {
		var list [32]byte
		copy(list[:], p[:])
		lists = append(lists, list)
	}
	for _, corner := range lists {
		for _, turn := range lists {
			for _, side := range lists {
				check(impl.Flags{Count: 4, Corner: corner, Turn: turn, Side: side})
			}
		}
	}
	if counts[true] != 18 {
		t.Errorf("%d flags of 4, not 18", counts[true])
	}
	eight := allTurns(8)
	for i, corner := range eight {
		for j, side := range eight {
			for k := range 4 {
				check(impl.Flags{Count: 8, Corner: corner, Turn: eight[(7*i+11*j+13*k)%len(eight)], Side: side})
			}
		}
	}
	if counts[true] < 500 || counts[false] < 500 {
		t.Errorf("flags and others that are tested: %v", counts)
	}
}

func TestTurnFlags(t *testing.T) {
	for _, f := range sampleFlags(t) {
		for k := range 6 {
			g, code := impl.TurnFlags(f, int64(k))
			if g != turnedByHand(f, k) || code != impl.ErrNone || !impl.AreFlags(g) {
				t.Fatalf("TurnFlags(%v, %d) = %v, %d", f, k, g, code)
			}
		}
	}
	loop := impl.Flags{Count: 4, Corner: swapping(0, 3, 1, 2), Turn: swapping(0, 3, 1, 2), Side: swapping(0, 1, 2, 3)}
	c, s, p := loop.Corner, loop.Side, swapping(0, 2, 1, 3)
	for k, lists := range [][2][32]byte{{c, s}, {s, c}, {p, s}, {s, p}, {c, p}, {p, c}} {
		want := impl.Flags{Count: 4, Corner: lists[0], Turn: loop.Turn, Side: lists[1]}
		if g, code := impl.TurnFlags(loop, int64(k)); g != want || code != impl.ErrNone {
			t.Errorf("TurnFlags(a loop, %d) = %v, %d", k, g, code)
		}
	}
}

func TestOperationsOutOfRange(t *testing.T) {
	for count := int64(4); count <= 32; count += 4 {
		for _, k := range notTurnNumbers() {
			if g, code := impl.TurnFlags(bouquet(count), k); g != (impl.Flags{}) || code != impl.ErrRange {
				t.Errorf("TurnFlags(%d flags, %d) = %v, %d", count, k, g, code)
			}
		}
	}
}

// TestDualsAndPetrieDualsUndoThemselves is the first half of promise 7. Of the operations 4 undoes
// itself, too, and 3 and 5 undo each other.
func TestDualsAndPetrieDualsUndoThemselves(t *testing.T) {
	for _, f := range sampleFlags(t) {
		for k, back := range []int64{0, 1, 2, 5, 4, 3} {
			g, _ := impl.TurnFlags(f, int64(k))
			if same, code := impl.TurnFlags(g, back); same != f || code != impl.ErrNone {
				t.Fatalf("TurnFlags(TurnFlags(%v, %d), %d) = %v, %d", f, k, back, same, code)
			}
		}
	}
}

// TestOperationsOnOperations: two operations make what one makes, and vertices, faces and zigzags
// go along with Side, Corner and P.
func TestOperationsOnOperations(t *testing.T) {
	letters := wilsonLetters()
	for i, f := range sampleFlags(t) {
		if i%3 != 0 {
			continue
		}
		old := shapeOf(t, f)
		degrees := map[byte][]int64{'S': old.vertices, 'C': old.faces, 'P': old.zigzags}
		for k := range 6 {
			g, _ := impl.TurnFlags(f, int64(k))
			turned := shapeOf(t, g)
			for at, list := range [][]int64{turned.faces, turned.vertices, turned.zigzags} {
				if !slices.Equal(list, degrees[letters[k][at]]) {
					t.Fatalf("operation %d makes of %v what has %v", k, f, turned)
				}
			}
			for j := range 6 {
				twice, _ := impl.TurnFlags(g, int64(j))
				once, _ := impl.TurnFlags(f, int64(bothTurned(letters, k, j)))
				if twice != once {
					t.Fatalf("operation %d behind %d makes of %v %v", j, k, f, twice)
				}
			}
		}
	}
}

func TestShapesOfFlags(t *testing.T) {
	counts := map[bool]int{}
	for _, f := range sampleFlags(t) {
		want := shapeByHand(f)
		counts[want.orientable]++
		if found := shapeOf(t, f); !found.equal(want) {
			t.Fatalf("%v has %v, not %v", f, found, want)
		}
	}
	if counts[true] < 200 || counts[false] < 200 {
		t.Errorf("orientable flags and others that are tested: %v", counts)
	}
}

func TestShapesOfKnownMaps(t *testing.T) {
	for _, known := range knownMaps() {
		f, code := impl.FlagsOf(mustParse(t, known.text))
		want := shape{known.vertices, known.faces, known.zigzags, known.euler, true}
		if found := shapeOf(t, f); !found.equal(want) || code != impl.ErrNone {
			t.Errorf("%s has %v, not %v", known.name, found, want)
		}
	}
}

// TestShapesOfTheTetrahedron: its Petrie dual has three squares on the projective plane.
func TestShapesOfTheTetrahedron(t *testing.T) {
	threes, fours := []int64{3, 3, 3, 3}, []int64{4, 4, 4}
	want := []shape{
		{threes, threes, fours, 2, true},
		{threes, threes, fours, 2, true},
		{threes, fours, threes, 1, false},
		{fours, threes, threes, 1, false},
		{fours, threes, threes, 1, false},
		{threes, fours, threes, 1, false},
	}
	f := flagsByHand(mustParse(t, tetrahedron))
	for k := range want {
		g, code := impl.TurnFlags(f, int64(k))
		if found := shapeOf(t, g); !found.equal(want[k]) || code != impl.ErrNone {
			t.Errorf("operation %d makes of the tetrahedron what has %v", k, found)
		}
	}
}

// surface tells on what flags are.
type surface struct {
	euler      int64
	orientable bool
}

// TestNumbersOfFlags counts all Turns on one, two and three edges by their surfaces. They are as
// many as the rooted maps on these, which are known, times the names of what is not the root.
func TestNumbersOfFlags(t *testing.T) {
	rooted := []map[surface]int{
		{{2, true}: 2, {1, false}: 1},
		{{2, true}: 9, {0, true}: 1, {1, false}: 10, {0, false}: 4},
		{{2, true}: 54, {0, true}: 20, {1, false}: 98, {0, false}: 84, {-1, false}: 41},
	}
	for i, names := range []int{1, 4, 32} {
		counts := map[surface]int{}
		f := edgeFlags(int64(4*i + 4))
		for _, turn := range allTurns(f.Count) {
			f.Turn = turn
			if impl.AreFlags(f) {
				euler, _ := impl.EulerOfFlags(f)
				orientable, _ := impl.IsOrientable(f)
				counts[surface{euler, orientable}]++
			}
		}
		for at, want := range rooted[i] {
			if counts[at] != want*names {
				t.Errorf("%d edges: %d flags on %v, not %d", i+1, counts[at], at, want*names)
			}
		}
		if len(counts) != len(rooted[i]) {
			t.Errorf("%d edges: flags on %v", i+1, counts)
		}
	}
}

// TestFlagsOfMapsHaveTheirEulerNumber is the second half of promise 7, with what the chapter
// guarantees of flags of maps besides.
func TestFlagsOfMapsHaveTheirEulerNumber(t *testing.T) {
	numbers := map[int64]int{}
	for _, d := range sampleMaps(t) {
		f, code := impl.FlagsOf(d)
		want, _ := impl.EulerOf(d)
		numbers[want]++
		if euler, bad := impl.EulerOfFlags(f); euler != want || want != eulerByHand(d) || bad != impl.ErrNone || code != impl.ErrNone {
			t.Fatalf("EulerOfFlags(flags of %v) = %d, %d, not %d", d, euler, bad, want)
		}
		if yes, bad := impl.IsOrientable(f); !yes || bad != impl.ErrNone {
			t.Fatalf("IsOrientable(flags of %v) = %v, %d", d, yes, bad)
		}
		passport, _ := impl.PassportOf(d)
		if vertices, bad := impl.VertexDegrees(f); !slices.Equal(vertices, passport[0]) || bad != impl.ErrNone {
			t.Fatalf("VertexDegrees(flags of %v) = %v, %d", d, vertices, bad)
		}
		if faces, bad := impl.FaceDegrees(f); !slices.Equal(faces, passport[2]) || bad != impl.ErrNone {
			t.Fatalf("FaceDegrees(flags of %v) = %v, %d", d, faces, bad)
		}
		e, bad := impl.MapOfFlags(f)
		if yes, _ := impl.AreAlike(d, e); !yes || bad != impl.ErrNone {
			t.Fatalf("MapOfFlags(flags of %v) = %v, %d", d, e, bad)
		}
	}
	if len(numbers) < 5 || numbers[2] < 50 || numbers[0] < 50 {
		t.Errorf("Euler numbers that are tested: %v", numbers)
	}
}

func TestMapOfFlags(t *testing.T) {
	counts := map[bool]int{}
	for _, f := range sampleFlags(t) {
		want, wantCode := impl.Dessin{}, int64(impl.ErrState)
		if zeroClassByHand(f) != nil {
			want, wantCode = mapByHand(f), impl.ErrNone
		}
		counts[wantCode == impl.ErrNone]++
		d, code := impl.MapOfFlags(f)
		if d != want || code != wantCode {
			t.Fatalf("MapOfFlags(%v) = %v, %d", f, d, code)
		}
		if yes, bad := impl.IsClean(d); code == impl.ErrNone && (!yes || bad != impl.ErrNone) {
			t.Fatalf("MapOfFlags(%v) = %v is not clean", f, d)
		}
	}
	if counts[true] < 200 || counts[false] < 200 {
		t.Errorf("orientable flags and others that are tested: %v", counts)
	}
}

// TestMapsOfRenamedFlags: the flag 0 may come into either class, so that the map or its mirror
// image is found again.
func TestMapsOfRenamedFlags(t *testing.T) {
	s := source(72)
	counts := map[string]int{}
	for _, d := range sampleMaps(t) {
		f := flagsByHand(d)
		if e, code := impl.MapOfFlags(f); e != d || code != impl.ErrNone {
			t.Fatalf("MapOfFlags(%v) = %v, %d, not %v", f, e, code, d)
		}
		e, code := impl.MapOfFlags(s.renamedFlags(f))
		same, mirrored := alikeByHand(d, e), alikeByHand(mirrorByHand(d), e)
		if !same && !mirrored || code != impl.ErrNone {
			t.Fatalf("MapOfFlags(renamed flags of %v) = %v, %d", d, e, code)
		}
		if !same {
			counts["mirrored"]++
		} else if !mirrored {
			counts["chiral"]++
		}
	}
	if counts["mirrored"] < 20 || counts["chiral"] < 20 {
		t.Errorf("chiral maps that are tested: %v", counts)
	}
}

// TestDualsOfMaps: the map of the dual has the faces as vertices, and is the mirror image of an
// exchange.
func TestDualsOfMaps(t *testing.T) {
	for _, d := range sampleMaps(t) {
		want := impl.Dessin{Darts: d.Darts, Black: thenByHand(d.White, d.Black, d.Darts), White: d.White}
		f, _ := impl.FlagsOf(d)
		g, _ := impl.TurnFlags(f, 1)
		dual, code := impl.MapOfFlags(g)
		if dual != want || code != impl.ErrNone {
			t.Fatalf("MapOfFlags(dual flags of %v) = %v, %d, not %v", d, dual, code, want)
		}
		exchanged, _ := impl.ExchangeOf(d, 5)
		mirror, _ := impl.MirrorOf(exchanged)
		if yes, code := impl.AreAlike(dual, mirror); !yes || code != impl.ErrNone {
			t.Fatalf("AreAlike(%v, %v) = %v, %d", dual, mirror, yes, code)
		}
	}
}

// TestFlagsAreNeeded: what is none is refused, ahead of a number out of range.
func TestFlagsAreNeeded(t *testing.T) {
	for name, f := range notFlags() {
		for _, k := range append(notTurnNumbers(), 0, 1, 2, 3, 4, 5) {
			if g, code := impl.TurnFlags(f, k); g != (impl.Flags{}) || code != impl.ErrInvalid {
				t.Errorf("%s: TurnFlags = %v, %d", name, g, code)
			}
		}
		for _, tell := range []func(impl.Flags) ([]int64, int64){impl.VertexDegrees, impl.FaceDegrees, impl.ZigzagDegrees} {
			if list, code := tell(f); len(list) != 0 || code != impl.ErrInvalid {
				t.Errorf("%s: degrees = %v, %d", name, list, code)
			}
		}
		if euler, code := impl.EulerOfFlags(f); euler != 0 || code != impl.ErrInvalid {
			t.Errorf("%s: EulerOfFlags = %d, %d", name, euler, code)
		}
		if yes, code := impl.IsOrientable(f); yes || code != impl.ErrInvalid {
			t.Errorf("%s: IsOrientable = %v, %d", name, yes, code)
		}
		if d, code := impl.MapOfFlags(f); d != (impl.Dessin{}) || code != impl.ErrInvalid {
			t.Errorf("%s: MapOfFlags = %v, %d", name, d, code)
		}
	}
}

func TestDegreesAreNewMemory(t *testing.T) {
	f := flagsByHand(mustParse(t, pyramid))
	checkOwnMemory(t, "the degrees of flags", func() [][]int64 {
		vertices, _ := impl.VertexDegrees(f)
		faces, _ := impl.FaceDegrees(f)
		zigzags, _ := impl.ZigzagDegrees(f)
		return [][]int64{vertices, faces, zigzags}
	})
}
