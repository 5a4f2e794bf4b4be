package tests

import (
	"slices"
	"testing"

	"loop.example/g01200/impl"
)

func TestLeavesOf(t *testing.T) {
	for _, d := range sampleTrees() {
		var want []int64
		for x := range d.Darts {
			for _, p := range []impl.Places{d.Black, d.White} {
				if slices.ContainsFunc(cyclesByHand(p, d.Darts), func(c []int64) bool { return len(c) == 1 && c[0] == x }) {
					want = append(want, x)
				}
			}
		}
		want = slices.Compact(want)
		if found, code := impl.LeavesOf(d); !slices.Equal(found, want) || code != impl.ErrNone {
			t.Fatalf("LeavesOf(%v) = %v, %d, not %v", d, found, code, want)
		}
	}
	known := map[string][]int64{
		"()":         {0},
		"(())":       {0, 1},
		"()()":       {0, 1},
		"((()))":     {0, 2},
		"(()())()":   {1, 2, 3},
		"((())())":   {0, 2, 3},
		"(((())()))": {0, 3, 4},
	}
	for word, want := range known {
		if found, code := impl.LeavesOf(treeByHand(word)); !slices.Equal(found, want) || code != impl.ErrNone {
			t.Errorf("LeavesOf the tree of %q = %v, %d", word, found, code)
		}
	}
	for n := int64(1); n <= 16; n++ {
		star, _ := impl.StarDessin(n)
		if found, code := impl.LeavesOf(star); !slices.Equal(found, upTo(n)) || code != impl.ErrNone {
			t.Errorf("LeavesOf(star of %d) = %v, %d", n, found, code)
		}
		chain, _ := impl.ChainDessin(n)
		if found, code := impl.LeavesOf(chain); !slices.Equal(found, slices.Compact([]int64{0, n - 1})) || code != impl.ErrNone {
			t.Errorf("LeavesOf(chain of %d) = %v, %d", n, found, code)
		}
	}
}

func TestDiameterOf(t *testing.T) {
	for _, d := range sampleTrees() {
		want := int64(0)
		for _, row := range distancesByHand(d) {
			want = max(want, slices.Max(row))
		}
		if found, code := impl.DiameterOf(d); found != want || code != impl.ErrNone {
			t.Fatalf("DiameterOf(%v) = %d, %d, not %d", d, found, code, want)
		}
	}
	known := map[string]int64{
		"()": 1, "(())": 2, "()()": 2, "((()))": 3, "()(())": 3, "(()())()": 3, "((())())": 3, "(((()))((())))": 6, "((()))((()))()": 6,
		"((((()))()))": 5, "()()()()()()()()()()()()()()()()": 2, "((((((((()()()()()()()))))))))": 9,
	}
	for word, want := range known {
		if found, code := impl.DiameterOf(treeByHand(word)); found != want || code != impl.ErrNone {
			t.Errorf("DiameterOf the tree of %q = %d, %d", word, found, code)
		}
	}
	for n := int64(1); n <= 16; n++ {
		star, _ := impl.StarDessin(n)
		if found, code := impl.DiameterOf(star); found != min(n, 2) || code != impl.ErrNone {
			t.Errorf("DiameterOf(star of %d) = %d, %d", n, found, code)
		}
		chain, _ := impl.ChainDessin(n)
		if found, code := impl.DiameterOf(chain); found != n || code != impl.ErrNone {
			t.Errorf("DiameterOf(chain of %d) = %d, %d", n, found, code)
		}
	}
}

func TestCentreOf(t *testing.T) {
	kinds := map[int64]int{}
	for _, d := range sampleTrees() {
		want := centreByHand(d)
		if found, code := impl.CentreOf(d); !slices.Equal(found, want) || code != impl.ErrNone {
			t.Fatalf("CentreOf(%v) = %v, %d, not %v", d, found, code, want)
		}
		diameter, _ := impl.DiameterOf(d)
		if (want[0] == 2) != (diameter%2 == 1) {
			t.Errorf("CentreOf(%v) = %v with a diameter of %d", d, want, diameter)
		}
		kinds[want[0]]++
	}
	for kind := range int64(3) {
		if kinds[kind] < 100 {
			t.Errorf("only %d centres of kind %d are tested", kinds[kind], kind)
		}
	}
	known := map[string][]int64{
		"1|()|()":                      {2, 0},
		"2|(0 1)|()":                   {0, 0},
		"2|()|(0 1)":                   {1, 0},
		"3|(0 1 2)|()":                 {0, 0},
		"3|()|(0 1 2)":                 {1, 0},
		"3|(1 2)|(0 1)":                {2, 1},
		"3|(0 2)|(0 1)":                {2, 0},
		"3|(0 1)|(0 2)":                {2, 0},
		"4|(1 2)|(0 1)(2 3)":           {0, 1},
		"4|(0 1)(2 3)|(1 2)":           {1, 1},
		"4|(0 3)(1 2)|(0 2)":           {1, 0},
		"5|(1 3)(2 4)|(0 3)(1 2)":      {2, 1},
		"6|(2 3)(4 5)|(0 2)(1 4)(3 5)": {1, 3},
	}
	for text, want := range known {
		if found, code := impl.CentreOf(mustParse(t, text)); !slices.Equal(found, want) || code != impl.ErrNone {
			t.Errorf("CentreOf(%s) = %v, %d", text, found, code)
		}
	}
}

// TestCentresOfStarsAndChains: black vertices of the chain of n are those of 1 and 2, 3 and 4, and
// so on, white ones those of 0 and 1, 2 and 3, and so on.
func TestCentresOfStarsAndChains(t *testing.T) {
	for n := int64(1); n <= 16; n++ {
		chain, _ := impl.ChainDessin(n)
		want := []int64{2, n / 2}
		if n%2 == 0 {
			left := n/2 - 1
			want = []int64{1 - left%2, left}
		}
		if found, code := impl.CentreOf(chain); !slices.Equal(found, want) || code != impl.ErrNone {
			t.Errorf("CentreOf(chain of %d) = %v, %d", n, found, code)
		}
		star, _ := impl.StarDessin(n)
		other := impl.Dessin{Darts: n, Black: star.White, White: star.Black}
		for kind, d := range []impl.Dessin{star, other} {
			want := []int64{int64(kind), 0}
			if n == 1 {
				want = []int64{2, 0}
			}
			if found, code := impl.CentreOf(d); !slices.Equal(found, want) || code != impl.ErrNone {
				t.Errorf("CentreOf(%v) = %v, %d", d, found, code)
			}
		}
	}
}

// TestRenamedTreesHaveTheShape: a renaming leads leaves to leaves and the centre to the centre.
func TestRenamedTreesHaveTheShape(t *testing.T) {
	for _, word := range longWords() {
		d := treeByHand(word)
		leaves, _ := impl.LeavesOf(d)
		diameter, _ := impl.DiameterOf(d)
		centre, _ := impl.CentreOf(d)
		for _, p := range renamings(d) {
			e := renamedByHand(d, p)
			var want []int64
			for _, x := range leaves {
				want = append(want, int64(p[x]))
			}
			slices.Sort(want)
			if found, code := impl.LeavesOf(e); !slices.Equal(found, want) || code != impl.ErrNone {
				t.Errorf("LeavesOf(%v) = %v, %d, not %v", e, found, code, want)
			}
			if found, code := impl.DiameterOf(e); found != diameter || code != impl.ErrNone {
				t.Errorf("DiameterOf(%v) = %d, %d, not %d", e, found, code, diameter)
			}
			found, code := impl.CentreOf(e)
			if code != impl.ErrNone || found[0] != centre[0] || !isSamePlace(e, found, int64(p[centre[1]])) {
				t.Errorf("CentreOf(%v) = %v, %d, and before renaming by %v it is %v", e, found, code, p, centre)
			}
		}
	}
}

// isSamePlace reports whether x is at the vertex, or the edge, that is told as a centre.
func isSamePlace(d impl.Dessin, centre []int64, x int64) bool {
	if centre[0] == 2 {
		return centre[1] == x
	}
	for _, cycle := range cyclesByHand([]impl.Places{d.Black, d.White}[centre[0]], d.Darts) {
		if slices.Contains(cycle, x) {
			return slices.Min(cycle) == centre[1]
		}
	}
	return false
}

func TestTreesAloneHaveShapes(t *testing.T) {
	check := func(d impl.Dessin, want int64) {
		t.Helper()
		if leaves, code := impl.LeavesOf(d); len(leaves) != 0 || code != want {
			t.Errorf("LeavesOf(%v) = %v, %d", d, leaves, code)
		}
		if diameter, code := impl.DiameterOf(d); diameter != 0 || code != want {
			t.Errorf("DiameterOf(%v) = %d, %d", d, diameter, code)
		}
		if centre, code := impl.CentreOf(d); len(centre) != 0 || code != want {
			t.Errorf("CentreOf(%v) = %v, %d", d, centre, code)
		}
	}
	for _, d := range notDessins() {
		check(d, impl.ErrInvalid)
	}
	for _, d := range notTrees(t) {
		check(d, impl.ErrState)
	}
}

func TestShapesAreNewMemory(t *testing.T) {
	d := treeByHand("(()(()))()")
	checkOwnMemory(t, "LeavesOf and CentreOf", func() [][]int64 {
		leaves, _ := impl.LeavesOf(d)
		centre, _ := impl.CentreOf(d)
		return [][]int64{leaves, centre}
	})
}
