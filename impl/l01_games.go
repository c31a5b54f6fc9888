package impl

import (
	"iter"
	"slices"
	"strconv"
	"strings"
)

const (
	ErrNone = iota
	ErrInvalid
	ErrRange
	ErrLimit
	ErrNotFound
	ErrState
	ErrSyntax
)
const MaxPlaces = 40

const (
	maxNumbers = 1000
	maxHeap    = MaxPlaces - 1 // a heap of k has k + 1 places
)

type Game struct {
	Moves [][]int64
}

// IsGame reports whether g is a game.
func IsGame(g Game) bool {
	n := int64(len(g.Moves))
	if n < 1 || n > MaxPlaces {
		return false
	}
	for p, moves := range g.Moves {
		if !isAscendingIn(moves, int64(p)+1, n-1) {
			return false
		}
	}
	return true
}

// EndsOf returns the ends, ascending, and ErrNone.
func EndsOf(g Game) ([]int64, int64) {
	if !IsGame(g) {
		return nil, ErrInvalid
	}
	var ends []int64
	for p, moves := range g.Moves {
		if len(moves) == 0 {
			ends = append(ends, int64(p))
		}
	}
	return ends, ErrNone
}

// WonPlaces returns for each place whether it is won in normal play, and ErrNone.
func WonPlaces(g Game) ([]bool, int64) {
	return checkedValues(g, wonNormally)
}

// WonInMisere returns for each place whether it is won in misere play, and ErrNone.
func WonInMisere(g Game) ([]bool, int64) {
	return checkedValues(g, func(after []bool) bool {
		return len(after) == 0 || slices.Contains(after, false)
	})
}

// MexOf returns the mex of at most 1000 numbers of at least 0, and ErrNone.
func MexOf(list []int64) (int64, int64) {
	if !areNumbers(list) {
		return 0, ErrRange
	}
	return mex(list), ErrNone
}

// NimSumOf returns the nim sum of at most 1000 numbers of at least 0 (0 for none), and ErrNone.
func NimSumOf(list []int64) (int64, int64) {
	if !areNumbers(list) {
		return 0, ErrRange
	}
	sum := int64(0)
	for _, x := range list {
		sum ^= x
	}
	return sum, ErrNone
}

// GrundyOf returns the Grundy values of all places, and ErrNone.
func GrundyOf(g Game) ([]int64, int64) {
	return checkedValues(g, mex)
}

// FewestMoves returns for each place the least number of moves after which an end can be reached,
// and ErrNone.
func FewestMoves(g Game) ([]int64, int64) {
	return checkedValues(g, movesBy(slices.Min))
}

// MostMoves returns for each place the greatest number of moves after which an end can be reached,
// and ErrNone.
func MostMoves(g Game) ([]int64, int64) {
	return checkedValues(g, movesBy(slices.Max))
}

// LengthsOf returns the lengths of all places, and ErrNone.
func LengthsOf(g Game) ([]int64, int64) {
	return checkedValues(g, lengthAfter)
}

// CountPlays returns for each place the number of the different lists of moves that lead from it to
// an end (1 for an end), and ErrNone.
func CountPlays(g Game) ([]int64, int64) {
	return checkedValues(g, func(after []int64) int64 {
		if len(after) == 0 {
			return 1
		}
		sum := int64(0)
		for _, count := range after {
			sum += count
		}
		return sum
	})
}

// ReachedFrom returns the places that some moves, or none, lead to from the place p, ascending, and
// ErrNone.
func ReachedFrom(g Game, p int64) ([]int64, int64) {
	if code := checkPlace(g, p); code != ErrNone {
		return nil, code
	}
	reached := make([]bool, len(g.Moves))
	reached[p] = true
	var places []int64
	// Moves lead upwards only, so a place is marked before the loop comes to it.
	for q, moves := range g.Moves {
		if !reached[q] {
			continue
		}
		places = append(places, int64(q))
		for _, next := range moves {
			reached[next] = true
		}
	}
	return places, ErrNone
}

// BestMoves returns the places to which best moves lead from the place p, ascending, none if p is
// lost, and ErrNone.
func BestMoves(g Game, p int64) ([]int64, int64) {
	if code := checkPlace(g, p); code != ErrNone {
		return nil, code
	}
	return lostAmong(g.Moves[p], valuesBy(g, wonNormally)), ErrNone
}

// PlayFrom returns the places that follow p, one after the other, if each time the move to the
// least place is made to which a best move leads, or, at a lost place, to the least place of all
// moves, till an end is reached, and ErrNone.
func PlayFrom(g Game, p int64) ([]int64, int64) {
	if code := checkPlace(g, p); code != ErrNone {
		return nil, code
	}
	won := valuesBy(g, wonNormally)
	var play []int64
	for len(g.Moves[p]) > 0 {
		choices := g.Moves[p]
		if best := lostAmong(choices, won); len(best) > 0 {
			choices = best
		}
		p = choices[0]
		play = append(play, p)
	}
	return play, ErrNone
}

// SumOfGames returns the sum, and ErrNone. Errors: ErrLimit if it would have more than MaxPlaces
// places.
func SumOfGames(g Game, h Game) (Game, int64) {
	if !IsGame(g) || !IsGame(h) {
		return Game{}, ErrInvalid
	}
	m := int64(len(h.Moves))
	if int64(len(g.Moves))*m > MaxPlaces {
		return Game{}, ErrLimit
	}
	var lists moveLists
	for i, first := range g.Moves {
		for j, second := range h.Moves {
			// A move of the second game stays within the m places of i, so it comes before those of
			// the first game.
			for _, next := range second {
				lists.addMove(m*int64(i) + next)
			}
			for _, next := range first {
				lists.addMove(m*next + int64(j))
			}
			lists.endPlace()
		}
	}
	return lists.game(), ErrNone
}

// HeapGame returns the heap of k, in 0..39, with an ascending list of different numbers, each in
// 1..39, and ErrNone.
func HeapGame(k int64, list []int64) (Game, int64) {
	if k < 0 || k > maxHeap || !isAscendingIn(list, 1, maxHeap) {
		return Game{}, ErrRange
	}
	var lists moveLists
	for place := range k + 1 {
		for _, taken := range list {
			if place+taken <= k {
				lists.addMove(place + taken)
			}
		}
		lists.endPlace()
	}
	return lists.game(), ErrNone
}

// AreEqualGames reports whether the place p of g and the place q of h have the same Grundy value,
// and returns ErrNone.
func AreEqualGames(g Game, p int64, h Game, q int64) (bool, int64) {
	if !IsGame(g) || !IsGame(h) {
		return false, ErrInvalid
	}
	if !isPlace(g, p) || !isPlace(h, q) {
		return false, ErrRange
	}
	return valuesBy(g, mex)[p] == valuesBy(h, mex)[q], ErrNone
}

// GameText returns the text of g, and ErrNone.
func GameText(g Game) (string, int64) {
	if !IsGame(g) {
		return "", ErrInvalid
	}
	var text strings.Builder
	for p, moves := range g.Moves {
		if p > 0 {
			text.WriteByte(',')
		}
		for i, q := range moves {
			if i > 0 {
				text.WriteByte('.')
			}
			text.WriteString(strconv.FormatInt(q, 10))
		}
	}
	return text.String(), ErrNone
}

// ParseGame returns the game with a text, and ErrNone. Errors: ErrSyntax if there is none. (No
// other errors are returned.)
func ParseGame(text string) (Game, int64) {
	var lists moveLists
	for part := range strings.SplitSeq(text, ",") {
		if len(lists.stops) == MaxPlaces || !lists.addPart(part) {
			return Game{}, ErrSyntax
		}
	}
	g := lists.game()
	if !IsGame(g) {
		return Game{}, ErrSyntax
	}
	return g, ErrNone
}

// moveLists gathers the lists of moves of a game in one row; stops tells where each list ends.
type moveLists struct {
	row   []int64
	stops []int
}

func (l *moveLists) addMove(place int64) {
	l.row = append(l.row, place)
}

func (l *moveLists) endPlace() {
	l.stops = append(l.stops, len(l.row))
}

// addPart adds the place whose moves are written in a part of a text. It reports whether the part
// has numbers alone; whether these are moves is left to IsGame, which knows the number of places.
func (l *moveLists) addPart(part string) bool {
	if part != "" {
		for word := range strings.SplitSeq(part, ".") {
			place, ok := parseNumber(word)
			if !ok {
				return false
			}
			l.addMove(place)
		}
	}
	l.endPlace()
	return true
}

// game returns the game of the lists. The third index keeps a caller's append to one list from
// writing over the next one.
func (l *moveLists) game() Game {
	moves := make([][]int64, len(l.stops))
	start := 0
	for p, stop := range l.stops {
		moves[p] = l.row[start:stop:stop]
		start = stop
	}
	return Game{Moves: moves}
}

// lastToFirst yields the places of a game with their moves, the last place first: moves lead
// upwards, so the places behind a move come before the one where it starts.
func lastToFirst(g Game) iter.Seq2[int64, []int64] {
	return func(yield func(place int64, moves []int64) bool) {
		for p := len(g.Moves) - 1; p >= 0; p-- {
			if !yield(int64(p), g.Moves[p]) {
				return
			}
		}
	}
}

// valuesBy returns for each place of a game what the rule makes of the values behind its moves.
func valuesBy[V any](g Game, rule func(after []V) V) []V {
	values := make([]V, len(g.Moves))
	for p, moves := range lastToFirst(g) {
		after := make([]V, len(moves))
		for i, q := range moves {
			after[i] = values[q]
		}
		values[p] = rule(after)
	}
	return values
}

// checkedValues is valuesBy with the code for something that is not a game.
func checkedValues[V any](g Game, rule func(after []V) V) ([]V, int64) {
	if !IsGame(g) {
		return nil, ErrInvalid
	}
	return valuesBy(g, rule), ErrNone
}

// wonNormally is the rule of normal play: a place is won if some move leads to a lost one.
func wonNormally(after []bool) bool {
	return slices.Contains(after, false)
}

// movesBy is the rule that counts the moves till an end along the place that is picked each time.
func movesBy(pick func(after []int64) int64) func(after []int64) int64 {
	return func(after []int64) int64 {
		if len(after) == 0 {
			return 0
		}
		return 1 + pick(after)
	}
}

// lengthAfter is the rule of the lengths. It needs no list of the won places, as by the definition
// the length of a lost place is even and that of a won place odd. An end has no greatest length
// behind it: -1 makes its own one 0.
func lengthAfter(after []int64) int64 {
	leastLost := int64(-1)
	greatest := int64(-1)
	for _, length := range after {
		if length%2 == 0 && (leastLost < 0 || length < leastLost) {
			leastLost = length
		}
		greatest = max(greatest, length)
	}
	if leastLost >= 0 {
		return 1 + leastLost
	}
	return 1 + greatest
}

// lostAmong returns those of the places that are lost.
func lostAmong(places []int64, won []bool) []int64 {
	var lost []int64
	for _, q := range places {
		if !won[q] {
			lost = append(lost, q)
		}
	}
	return lost
}

// mex returns the least number of at least 0 that is not in the list.
func mex(list []int64) int64 {
	present := map[int64]bool{}
	for _, x := range list {
		present[x] = true
	}
	least := int64(0)
	for present[least] {
		least++
	}
	return least
}

func isPlace(g Game, p int64) bool {
	return p >= 0 && p < int64(len(g.Moves))
}

// checkPlace returns the code for a game and one of its places.
func checkPlace(g Game, p int64) int64 {
	if !IsGame(g) {
		return ErrInvalid
	}
	if !isPlace(g, p) {
		return ErrRange
	}
	return ErrNone
}

// areNumbers reports whether a list may be given to MexOf and NimSumOf.
func areNumbers(list []int64) bool {
	if len(list) > maxNumbers {
		return false
	}
	for _, x := range list {
		if x < 0 {
			return false
		}
	}
	return true
}

// isAscendingIn reports whether a list is strictly ascending with all elements in low..high.
func isAscendingIn(list []int64, low int64, high int64) bool {
	for _, x := range list {
		if x < low || x > high {
			return false
		}
		low = x + 1
	}
	return true
}

// parseNumber returns the number that a word writes in decimal, without superfluous signs and
// zeros.
func parseNumber(word string) (int64, bool) {
	x, err := strconv.ParseInt(word, 10, 64)
	if err != nil || strconv.FormatInt(x, 10) != word {
		return 0, false
	}
	return x, true
}
