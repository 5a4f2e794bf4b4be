package tests

import (
	"math/big"
	"slices"
	"testing"

	"loop.example/g01200/impl"
)

func TestLimitsOfFractionsAndMoves(t *testing.T) {
	if impl.MaxPart != 1000000000 || impl.MaxMoves != 20 {
		t.Errorf("MaxPart = %d, MaxMoves = %d", impl.MaxPart, impl.MaxMoves)
	}
}

func TestIsFraction(t *testing.T) {
	count := 0
	check := func(x impl.Fraction) {
		t.Helper()
		if impl.IsFraction(x) != isFractionByHand(x) {
			t.Errorf("IsFraction(%v) = %v", x, impl.IsFraction(x))
		}
		if impl.IsFraction(x) {
			count++
		}
	}
	for num := int64(-40); num <= 40; num++ {
		for den := int64(-40); den <= 40; den++ {
			check(over(num, den))
		}
	}
	s := source(11)
	for range 2000 {
		check(s.fraction(1000000000))
		check(over(int64(s.below(2000000))-1000000, int64(s.below(1000000))))
	}
	if count < 4000 {
		t.Errorf("only %d fractions", count)
	}
	for _, x := range slices.Concat([]impl.Fraction{zero, unit, infinity}, greatFractions()) {
		if !impl.IsFraction(x) {
			t.Errorf("%v is no fraction", x)
		}
	}
	for _, x := range notFractions() {
		if impl.IsFraction(x) {
			t.Errorf("%v is a fraction", x)
		}
	}
}

func checkFractionOf(t *testing.T, num, den int64) {
	t.Helper()
	want := infinity
	if den != 0 {
		r := big.NewRat(num, den)
		want = over(r.Num().Int64(), r.Denom().Int64())
	}
	if x, code := impl.FractionOf(num, den); x != want || code != impl.ErrNone {
		t.Errorf("FractionOf(%d, %d) = %v, %d; want %v", num, den, x, code, want)
	}
}

func TestFractionOf(t *testing.T) {
	for num := int64(-40); num <= 40; num++ {
		for den := int64(-40); den <= 40; den++ {
			if num != 0 || den != 0 {
				checkFractionOf(t, num, den)
			}
		}
	}
	great := []int64{0, 1, -1, 2, -2, 3, 1024, -59049, 500000000, -999999999, 999999998, part, -part}
	for _, num := range great {
		for _, den := range great {
			if num != 0 || den != 0 {
				checkFractionOf(t, num, den)
			}
		}
	}
	s := source(12)
	for range 2000 {
		divisor := int64(1 + s.below(30000))
		checkFractionOf(t, divisor*int64(s.below(60000)-30000), divisor*int64(1+s.below(30000)))
	}
	known := [][4]int64{{2, -4, -1, 2}, {-2, -4, 1, 2}, {0, 7, 0, 1}, {0, -part, 0, 1}, {5, 0, 1, 0}, {-5, 0, 1, 0}, {part, part, 1, 1}, {-part, part, -1, 1}, {part, 1, part, 1}, {1, -part, -1, part}}
	for _, k := range known {
		if x, code := impl.FractionOf(k[0], k[1]); x != over(k[2], k[3]) || code != impl.ErrNone {
			t.Errorf("FractionOf(%d, %d) = %v, %d", k[0], k[1], x, code)
		}
	}
}

func TestNoFractionOf(t *testing.T) {
	check := func(num, den int64) {
		t.Helper()
		if x, code := impl.FractionOf(num, den); x != (impl.Fraction{}) || code != impl.ErrRange {
			t.Errorf("FractionOf(%d, %d) = %v, %d", num, den, x, code)
		}
	}
	check(0, 0)
	for _, out := range []int64{part + 1, -part - 1, 2 * part, -2 * part, 1 << 32, -1 << 32, low, low + 1, high} {
		for _, other := range []int64{0, 1, -1, part, -part, out, -out} {
			check(out, other)
			check(other, out)
		}
	}
}

func TestCompareFractions(t *testing.T) {
	all := slices.Concat(fractionsUpTo(9), greatFractions())
	for _, x := range all {
		for _, y := range all {
			if c, code := impl.CompareFractions(x, y); c != int64(compareByHand(x, y)) || code != impl.ErrNone {
				t.Errorf("CompareFractions(%v, %v) = %d, %d", x, y, c, code)
			}
		}
	}
	// Neighbours differ by less than floating numbers tell.
	for q := part; q > part-100; q-- {
		x, y := over(q-2, q-1), over(q-1, q)
		c, code := impl.CompareFractions(x, y)
		back, second := impl.CompareFractions(y, x)
		if c != -1 || back != 1 || code != impl.ErrNone || second != impl.ErrNone {
			t.Errorf("CompareFractions(%v, %v) = %d, and %d for the other order", x, y, c, back)
		}
	}
	for _, x := range notFractions() {
		for _, y := range []impl.Fraction{zero, infinity, over(-1, 2), x, over(2, 4)} {
			c, code := impl.CompareFractions(x, y)
			back, second := impl.CompareFractions(y, x)
			if c != 0 || back != 0 || code != impl.ErrInvalid || second != impl.ErrInvalid {
				t.Errorf("CompareFractions(%v, %v) = %d, %d, and %d, %d", x, y, c, code, back, second)
			}
		}
	}
}

func TestIsSet(t *testing.T) {
	few := fractionsUpTo(3)
	for _, x := range few {
		for _, y := range few {
			for _, z := range few {
				list := []impl.Fraction{x, y, z}
				if impl.IsSet(list) != isSetByHand(list) || impl.IsSet(list[:2]) != isSetByHand(list[:2]) {
					t.Fatalf("IsSet(%v) = %v, and %v without the last one", list, impl.IsSet(list), impl.IsSet(list[:2]))
				}
			}
		}
	}
	for _, list := range sampleSets() {
		if !impl.IsSet(list) {
			t.Errorf("%v is no set", list)
		}
	}
	for name, list := range notSets() {
		if impl.IsSet(list) {
			t.Errorf("%s: %v is a set", name, list)
		}
	}
	twelve := notSets()["thirteen fractions"][:12]
	if !impl.IsSet(twelve) || !impl.IsSet(append(slices.Clone(twelve[:11]), infinity)) || !impl.IsSet([]impl.Fraction{}) {
		t.Error("twelve fractions, or none, are a set")
	}
	for i := range twelve {
		list := slices.Clone(twelve)
		list[i] = over(2*list[i].Num, 2)
		if impl.IsSet(list) {
			t.Errorf("%v is a set", list)
		}
		if i > 0 {
			list[i] = list[i-1]
			if impl.IsSet(list) {
				t.Errorf("%v is a set", list)
			}
		}
	}
}
