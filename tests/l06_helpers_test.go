package tests

import (
	"math"
	"math/big"
	"slices"

	"loop.example/g01200/impl"
)

const prime = impl.FieldPrime

// field is the remainder of a number, negative ones included.
func field(x int64) int64 { return (x%prime + prime) % prime }

// poly writes a polynomial with integers, which may be negative or large.
func poly(numbers ...int64) []int64 {
	f := []int64{}
	for _, x := range numbers {
		f = append(f, field(x))
	}
	return trimmedByHand(f)
}

func trimmedByHand(f []int64) []int64 {
	for len(f) > 0 && f[len(f)-1] == 0 {
		f = f[:len(f)-1]
	}
	return slices.Clone(f)
}

func inverseByHand(x int64) int64 {
	return new(big.Int).ModInverse(big.NewInt(x), big.NewInt(prime)).Int64()
}

// powerByHand raises to powers from 0 on.
func powerByHand(x, n int64) int64 {
	return new(big.Int).Exp(big.NewInt(x), big.NewInt(n), big.NewInt(prime)).Int64()
}

// valueOfPoly adds up the powers in integers of any size.
func valueOfPoly(f []int64, x int64) int64 {
	sum := new(big.Int)
	for i, c := range f {
		power := new(big.Int).Exp(big.NewInt(x), big.NewInt(int64(i)), nil)
		sum.Add(sum, power.Mul(power, big.NewInt(c)))
	}
	return sum.Mod(sum, big.NewInt(prime)).Int64()
}

func plusByHand(f, g []int64) []int64 {
	sum := make([]int64, max(len(f), len(g)))
	for i := range sum {
		if i < len(f) {
			sum[i] += f[i]
		}
		if i < len(g) {
			sum[i] = field(sum[i] + g[i])
		}
	}
	return trimmedByHand(sum)
}

func scaledByHand(f []int64, by int64) []int64 {
	g := slices.Clone(f)
	for i := range g {
		g[i] = field(g[i] * by)
	}
	return trimmedByHand(g)
}

// timesByHand tells each number of the product by itself.
func timesByHand(f, g []int64) []int64 {
	product := []int64{}
	for k := range len(f) + len(g) {
		sum := int64(0)
		for i := range k + 1 {
			if i < len(f) && k-i < len(g) {
				sum = field(sum + f[i]*g[k-i])
			}
		}
		product = append(product, sum)
	}
	return trimmedByHand(product)
}

func powerOfPoly(f []int64, n int64) []int64 {
	product := []int64{1}
	for range n {
		product = timesByHand(product, f)
	}
	return product
}

// afterByHand adds up the powers of g.
func afterByHand(f, g []int64) []int64 {
	var sum []int64
	for i, c := range f {
		sum = plusByHand(sum, scaledByHand(powerOfPoly(g, int64(i)), c))
	}
	return sum
}

func slopeByHand(f []int64) []int64 {
	slope := []int64{}
	for i := 1; i < len(f); i++ {
		slope = append(slope, field(int64(i)*f[i]))
	}
	return trimmedByHand(slope)
}

// remainderByHand takes multiples of g from f as long as there are any.
func remainderByHand(f, g []int64) []int64 {
	for len(f) >= len(g) {
		count := field(-f[len(f)-1] * inverseByHand(g[len(g)-1]))
		shifted := append(make([]int64, len(f)-len(g)), scaledByHand(g, count)...)
		f = plusByHand(f, shifted)
	}
	return f
}

func divisorByHand(f, g []int64) []int64 {
	for len(g) > 0 {
		f, g = g, remainderByHand(f, g)
	}
	return scaledByHand(f, inverseByHand(f[len(f)-1]))
}

// degreeOfDivisor is the number of the powers that are no sums of multiples of f and g with a
// degree of less than theirs together: so many rows are missing in the rank of Sylvester's matrix.
func degreeOfDivisor(f, g []int64) int {
	size := len(f) + len(g) - 2
	var rows [][]int64
	add := func(f []int64, times int) {
		for i := range times {
			row := make([]int64, size)
			copy(row[i:], f)
			rows = append(rows, row)
		}
	}
	add(f, len(g)-1)
	add(g, len(f)-1)
	return size - rankByHand(rows, size)
}

func rankByHand(rows [][]int64, width int) int {
	rank := 0
	for column := range width {
		at := slices.IndexFunc(rows[rank:], func(row []int64) bool { return row[column] != 0 })
		if at < 0 {
			continue
		}
		rows[rank], rows[rank+at] = rows[rank+at], rows[rank]
		inverse := inverseByHand(rows[rank][column])
		for _, row := range rows[rank+1:] {
			count := field(row[column] * inverse)
			for i := range row {
				row[i] = field(row[i] - count*rows[rank][i])
			}
		}
		rank++
	}
	return rank
}

// multiplicitiesByHand takes the divisors that f - v has in common with its first derivatives: with
// k of them, each root is left with its multiplicity less k.
func multiplicitiesByHand(f []int64, v int64) []int64 {
	slope := plusByHand(f, poly(-v))
	divisor := slope
	var list []int64
	for len(divisor) > 1 {
		slope = slopeByHand(slope)
		next := divisorByHand(divisor, slope)
		roots := len(divisor) - len(next)
		for len(list) < roots {
			list = append(list, 0)
		}
		for i := range roots {
			list[i]++
		}
		divisor = next
	}
	return list
}

// factor is a polynomial without multiple roots, and the power to which it is taken.
type factor struct {
	base  []int64
	power int64
}

func productOf(factors []factor) []int64 {
	product := []int64{1}
	for _, x := range factors {
		product = timesByHand(product, powerOfPoly(x.base, x.power))
	}
	return product
}

// factorsOf are products of factors without common roots: those of degree 1, and some without
// roots in the field. Of -1 and -3 there are no square roots, and x^3 - x + 1 has no root.
func factorsOf(s *source) []factor {
	factors := []factor{
		{poly(1, 0, 1), int64(s.below(4))},
		{poly(1, 1, 1), int64(s.below(3))},
		{poly(1, -1, 0, 1), int64(s.below(2))},
	}
	for i := range 4 {
		root := int64(s.below(prime/4))*4 + int64(i)
		factors = append(factors, factor{poly(-root, 1), int64(s.below(5))})
	}
	return factors
}

// sampleFactors are lists of factors with products of degrees in 1..16.
func sampleFactors(count int) [][]factor {
	s := source(61)
	var lists [][]factor
	for len(lists) < count {
		factors := factorsOf(&s)
		if n := len(productOf(factors)) - 1; n >= 1 && n <= impl.MaxPower {
			lists = append(lists, factors)
		}
	}
	return lists
}

func multiplicitiesOfFactors(factors []factor) []int64 {
	list := []int64{}
	for _, x := range factors {
		if x.power > 0 {
			list = append(list, slices.Repeat([]int64{x.power}, len(x.base)-1)...)
		}
	}
	slices.Sort(list)
	slices.Reverse(list)
	return list
}

func (s *source) poly(degree int) []int64 {
	f := make([]int64, degree+1)
	for i := range f {
		f[i] = int64(s.below(prime))
	}
	f[degree] = 1 + int64(s.below(prime-1))
	return f
}

// samplePolynomials are 0, all of a degree of at most 2 with numbers among 0, 1, 2 and -1, and some
// of each degree, dense ones and ones with many zeros.
func samplePolynomials() [][]int64 {
	sample := [][]int64{{}}
	few := []int64{0, 1, 2, prime - 1}
	for _, a := range few {
		for _, b := range few {
			for _, c := range few {
				if f := poly(a, b, c); len(f) > 0 {
					sample = append(sample, f)
				}
			}
		}
	}
	sample = append(sample, []int64{prime - 1, prime - 1}, slices.Repeat([]int64{prime - 1}, impl.MaxPower+1))
	s := source(6)
	for n := range impl.MaxPower + 1 {
		sample = append(sample, append(make([]int64, n), 1), s.poly(n), s.poly(n))
		thin := s.poly(n)
		for i := range n {
			if s.below(3) > 0 {
				thin[i] = 0
			}
		}
		sample = append(sample, thin)
	}
	return sample
}

// notPolynomials end with a 0, are too long, or have a number out of range.
func notPolynomials() [][]int64 {
	lists := [][]int64{{0}, {1, 0}, {0, 0}, {3, 5, 0}, make([]int64, 17), append(ones(16), 0)}
	lists = append(lists, ones(18), append(make([]int64, 17), 1), append(ones(17), 0), ones(40))
	for _, far := range notInField() {
		lists = append(lists, []int64{far}, []int64{far, 1}, []int64{1, far}, []int64{0, far, 1}, append(ones(16), far))
	}
	return lists
}

// notInField are numbers that are no remainders.
func notInField() []int64 {
	return []int64{-1, prime, prime + 1, -prime, 1 << 32, math.MinInt64, math.MaxInt64}
}
