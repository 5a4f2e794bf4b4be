package impl

import (
	"slices"
	"strconv"
	"strings"
)

// The codes that the functions of all chapters return.
const (
	ErrNone = iota
	ErrInvalid
	ErrRange
	ErrLimit
	ErrNotFound
	ErrState
	ErrSyntax
)

// MaxDarts is the greatest number of darts of a dessin.
const MaxDarts = 16

// Places is a permutation of n numbers: it leads x to its entry at x. The entries behind the first
// n are 0, so that equal permutations are equal arrays.
type Places [16]byte

// Dessin is described in chapter 1.
type Dessin struct {
	Darts int64
	Black Places
	White Places
}

// meeting is a pair of a black and a white vertex, by their numbers.
type meeting struct {
	black int64
	white int64
}

// IsPermutation reports whether n is in 1..MaxDarts, and p is a permutation of n numbers.
func IsPermutation(p Places, n int64) bool {
	if !isDartCount(n) {
		return false
	}
	var found [MaxDarts]bool
	for _, y := range p[:n] {
		if int64(y) >= n || found[y] {
			return false
		}
		found[y] = true
	}
	for _, y := range p[n:] {
		if y != 0 {
			return false
		}
	}
	return true
}

// ThenPlaces returns p then q, and ErrNone.
func ThenPlaces(p Places, q Places, n int64) (Places, int64) {
	if !IsPermutation(p, n) || !IsPermutation(q, n) {
		return Places{}, ErrInvalid
	}
	return follow(p, q, n), ErrNone
}

// BackPlaces returns the permutation that leads back, and ErrNone.
func BackPlaces(p Places, n int64) (Places, int64) {
	if !IsPermutation(p, n) {
		return Places{}, ErrInvalid
	}
	return undo(p, n), ErrNone
}

// CyclesOf returns the cycles of p, and ErrNone.
func CyclesOf(p Places, n int64) ([][]int64, int64) {
	if !IsPermutation(p, n) {
		return nil, ErrInvalid
	}
	return cycleList(p, n), ErrNone
}

// TypeOf returns the type of p, and ErrNone.
func TypeOf(p Places, n int64) ([]int64, int64) {
	if !IsPermutation(p, n) {
		return nil, ErrInvalid
	}
	return cycleType(p, n), ErrNone
}

// SignOf returns the sign of p, and ErrNone.
func SignOf(p Places, n int64) (int64, int64) {
	if !IsPermutation(p, n) {
		return 0, ErrInvalid
	}
	if (n-countCycles(p, n))%2 != 0 {
		return -1, ErrNone
	}
	return 1, ErrNone
}

// OrderOf returns the order of p, and ErrNone.
func OrderOf(p Places, n int64) (int64, int64) {
	if !IsPermutation(p, n) {
		return 0, ErrInvalid
	}
	order, unchanged := int64(1), stay(n)
	for power := p; power != unchanged; power = follow(power, p, n) {
		order++
	}
	return order, ErrNone
}

// PlacesOfCycles returns the permutation of n numbers, n in 1..MaxDarts, with some lists among its
// cycles (read from any of their numbers on), all other numbers staying, and ErrNone. Errors:
// ErrRange if n is not in its range, a list is empty, a number is not in 0..n - 1, or one occurs
// twice. (ErrInvalid is not returned.)
func PlacesOfCycles(cycles [][]int64, n int64) (Places, int64) {
	if !isDartCount(n) {
		return Places{}, ErrRange
	}
	p := stay(n)
	var used [MaxDarts]bool
	for _, cycle := range cycles {
		if len(cycle) == 0 {
			return Places{}, ErrRange
		}
		for i, x := range cycle {
			if x < 0 || x >= n || used[x] {
				return Places{}, ErrRange
			}
			used[x] = true
			p[x] = byte(cycle[(i+1)%len(cycle)])
		}
	}
	return p, ErrNone
}

// IsDessin reports whether d is a dessin.
func IsDessin(d Dessin) bool {
	return IsPermutation(d.Black, d.Darts) && IsPermutation(d.White, d.Darts) && isConnected(d)
}

// FaceOf returns the Face permutation, and ErrNone.
func FaceOf(d Dessin) (Places, int64) {
	if !IsDessin(d) {
		return Places{}, ErrInvalid
	}
	return face(d), ErrNone
}

// PassportOf returns the passport, and ErrNone.
func PassportOf(d Dessin) ([][]int64, int64) {
	if !IsDessin(d) {
		return nil, ErrInvalid
	}
	var passport [][]int64
	for _, p := range turnsOf(d) {
		passport = append(passport, cycleType(p, d.Darts))
	}
	return passport, ErrNone
}

// EulerOf returns the Euler number, and ErrNone.
func EulerOf(d Dessin) (int64, int64) {
	if !IsDessin(d) {
		return 0, ErrInvalid
	}
	return euler(d), ErrNone
}

// GenusOf returns the genus, and ErrNone.
func GenusOf(d Dessin) (int64, int64) {
	if !IsDessin(d) {
		return 0, ErrInvalid
	}
	return 1 - euler(d)/2, ErrNone
}

// IncidencesOf returns for each black vertex, in order, the list of its incidences with the white
// vertices in order, and ErrNone.
func IncidencesOf(d Dessin) ([][]int64, int64) {
	if !IsDessin(d) {
		return nil, ErrInvalid
	}
	blackOf, whiteOf := cycleNumbers(d.Black, d.Darts), cycleNumbers(d.White, d.Darts)
	darts := map[meeting]int64{}
	for x := range d.Darts {
		darts[meeting{blackOf[x], whiteOf[x]}]++
	}
	rows := make([][]int64, countCycles(d.Black, d.Darts))
	for i := range rows {
		rows[i] = make([]int64, countCycles(d.White, d.Darts))
		for j := range rows[i] {
			rows[i][j] = darts[meeting{int64(i), int64(j)}]
		}
	}
	return rows, ErrNone
}

// StarDessin returns the star of n, in 1..MaxDarts, and ErrNone. (ErrInvalid is not returned.)
func StarDessin(n int64) (Dessin, int64) {
	if !isDartCount(n) {
		return Dessin{}, ErrRange
	}
	return Dessin{n, roundTurn(n), stay(n)}, ErrNone
}

// ChainDessin returns the chain of n, in 1..MaxDarts, and ErrNone. (ErrInvalid is not returned.)
func ChainDessin(n int64) (Dessin, int64) {
	if !isDartCount(n) {
		return Dessin{}, ErrRange
	}
	return Dessin{n, neighbourSwaps(1, n), neighbourSwaps(0, n)}, ErrNone
}

// BandDessin returns the band of n, in 1..MaxDarts, and ErrNone. (ErrInvalid is not returned.)
func BandDessin(n int64) (Dessin, int64) {
	if !isDartCount(n) {
		return Dessin{}, ErrRange
	}
	return Dessin{n, roundTurn(n), undo(roundTurn(n), n)}, ErrNone
}

// DessinText returns the text of d, and ErrNone.
func DessinText(d Dessin) (string, int64) {
	if !IsDessin(d) {
		return "", ErrInvalid
	}
	parts := []string{strconv.FormatInt(d.Darts, 10), placesText(d.Black, d.Darts), placesText(d.White, d.Darts)}
	return strings.Join(parts, "|"), ErrNone
}

// ParseDessin returns the dessin with a text, and ErrNone. Errors: ErrSyntax if there is none. (No
// other errors are returned.)
func ParseDessin(text string) (Dessin, int64) {
	d, ok := readDessin(text)
	if !ok {
		return Dessin{}, ErrSyntax
	}
	// A dessin has one text only, so all other spellings of it (cycles out of order, superfluous
	// zeros and blanks, cycles of one number) are found by writing it again.
	written, code := DessinText(d)
	if code != ErrNone || written != text {
		return Dessin{}, ErrSyntax
	}
	return d, ErrNone
}

func isDartCount(n int64) bool { return n >= 1 && n <= MaxDarts }

func stay(n int64) Places {
	var p Places
	for x := range n {
		p[x] = byte(x)
	}
	return p
}

func follow(p Places, q Places, n int64) Places {
	var r Places
	for x := range n {
		r[x] = q[p[x]]
	}
	return r
}

func undo(p Places, n int64) Places {
	var r Places
	for x := range n {
		r[p[x]] = byte(x)
	}
	return r
}

// roundTurn leads each number to the next one, and the last one to 0.
func roundTurn(n int64) Places {
	var p Places
	for x := range n {
		p[x] = byte((x + 1) % n)
	}
	return p
}

// neighbourSwaps exchanges first and first + 1, first + 2 and first + 3, and so on below n.
func neighbourSwaps(first int64, n int64) Places {
	p := stay(n)
	for x := first; x+1 < n; x += 2 {
		p[x], p[x+1] = p[x+1], p[x]
	}
	return p
}

func cycleList(p Places, n int64) [][]int64 {
	var cycles [][]int64
	var seen [MaxDarts]bool
	for first := range n {
		if seen[first] {
			continue
		}
		var cycle []int64
		for x := first; !seen[x]; x = int64(p[x]) {
			seen[x] = true
			cycle = append(cycle, x)
		}
		cycles = append(cycles, cycle)
	}
	return cycles
}

func countCycles(p Places, n int64) int64 { return int64(len(cycleList(p, n))) }

// cycleNumbers gives each number the place of its cycle in cycleList.
func cycleNumbers(p Places, n int64) [MaxDarts]int64 {
	var numbers [MaxDarts]int64
	for i, cycle := range cycleList(p, n) {
		for _, x := range cycle {
			numbers[x] = int64(i)
		}
	}
	return numbers
}

func cycleType(p Places, n int64) []int64 {
	var lengths []int64
	for _, cycle := range cycleList(p, n) {
		lengths = append(lengths, int64(len(cycle)))
	}
	slices.Sort(lengths)
	slices.Reverse(lengths)
	return lengths
}

// isConnected takes forward steps from 0 alone: as Black and White are permutations, repeating
// their steps leads back, too, so that this reaches what can be reached at all.
func isConnected(d Dessin) bool { return int64(len(dartsFrom(d, 0))) == d.Darts }

// dartsFrom lists the darts in the order in which steps with Black, then White reach them from x.
func dartsFrom(d Dessin, x byte) []byte {
	reached := []byte{x}
	var found [MaxDarts]bool
	found[x] = true
	for i := 0; i < len(reached); i++ {
		for _, y := range [2]byte{d.Black[reached[i]], d.White[reached[i]]} {
			if !found[y] {
				found[y] = true
				reached = append(reached, y)
			}
		}
	}
	return reached
}

func face(d Dessin) Places { return undo(follow(d.Black, d.White, d.Darts), d.Darts) }

func turnsOf(d Dessin) [3]Places { return [3]Places{d.Black, d.White, face(d)} }

func euler(d Dessin) int64 {
	sum := -d.Darts
	for _, p := range turnsOf(d) {
		sum += countCycles(p, d.Darts)
	}
	return sum
}

func placesText(p Places, n int64) string {
	if p == stay(n) {
		return "()"
	}
	var text strings.Builder
	for _, cycle := range cycleList(p, n) {
		if len(cycle) > 1 {
			text.WriteString("(" + numbersText(cycle) + ")")
		}
	}
	return text.String()
}

func numbersText(numbers []int64) string {
	var words []string
	for _, x := range numbers {
		words = append(words, strconv.FormatInt(x, 10))
	}
	return strings.Join(words, " ")
}

// readDessin reads more spellings than the text of a dessin, and what it reads need be no dessin.
func readDessin(text string) (Dessin, bool) {
	parts := strings.Split(text, "|")
	if len(parts) != 3 {
		return Dessin{}, false
	}
	n, err := strconv.ParseInt(parts[0], 10, 64)
	if err != nil {
		return Dessin{}, false
	}
	black, blackRead := readPlaces(parts[1], n)
	white, whiteRead := readPlaces(parts[2], n)
	return Dessin{n, black, white}, blackRead && whiteRead
}

func readPlaces(text string, n int64) (Places, bool) {
	var cycles [][]int64
	if text != "()" {
		inside, opened := strings.CutPrefix(text, "(")
		inside, closed := strings.CutSuffix(inside, ")")
		if !opened || !closed {
			return Places{}, false
		}
		for _, words := range strings.Split(inside, ")(") {
			cycle, ok := readNumbers(words)
			if !ok {
				return Places{}, false
			}
			cycles = append(cycles, cycle)
		}
	}
	p, code := PlacesOfCycles(cycles, n)
	return p, code == ErrNone
}

func readNumbers(text string) ([]int64, bool) {
	var numbers []int64
	for _, word := range strings.Split(text, " ") {
		x, err := strconv.ParseInt(word, 10, 64)
		if err != nil {
			return nil, false
		}
		numbers = append(numbers, x)
	}
	return numbers, true
}
