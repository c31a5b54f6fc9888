package tests

import (
	"reflect"
	"slices"
	"strings"
	"testing"

	"loop.example/g01388/impl"
)

// parsed returns the game with a text.
func parsed(t *testing.T, text string) impl.Game {
	t.Helper()
	g, code := impl.ParseGame(text)
	if code != impl.ErrNone {
		t.Fatalf("ParseGame(%q): code %d", text, code)
	}
	return g
}

// emptyGame returns a game of n places without moves.
func emptyGame(n int) impl.Game {
	return impl.Game{Moves: make([][]int64, n)}
}

// fullGame returns the game of n places with all moves that there can be.
func fullGame(n int64) impl.Game {
	g := impl.Game{}
	for p := range n {
		g.Moves = append(g.Moves, upTo(p+1, n-1))
	}
	return g
}

// someGames returns games of 1 to 8 places with many kinds of moves.
func someGames() []impl.Game {
	var d dice = 1
	var games []impl.Game
	for i := range int64(300) {
		n := i%8 + 1
		g := emptyGame(int(n))
		for p := range n {
			for q := p + 1; q < n; q++ {
				if d.below(5) < 2 {
					g.Moves[p] = append(g.Moves[p], q)
				}
			}
		}
		games = append(games, g)
	}
	return games
}

// badGames returns some of each kind of what is not a game.
func badGames() map[string]impl.Game {
	moves := func(lists ...[]int64) impl.Game { return impl.Game{Moves: lists} }
	big := fullGame(41)
	return map[string]impl.Game{
		"no place":                  {},
		"no place, empty list":      {Moves: [][]int64{}},
		"41 places":                 emptyGame(41),
		"41 places with moves":      big,
		"move to itself":            moves([]int64{0}),
		"last place moves":          moves([]int64{1}, []int64{1}),
		"move backwards":            moves([]int64{1}, []int64{0}),
		"move to the place n":       moves([]int64{1, 2}, nil),
		"move to the place 40":      {Moves: append([][]int64{{40}}, make([][]int64, 39)...)},
		"negative move":             moves([]int64{-1}, nil),
		"least move":                moves([]int64{leastInt}, nil),
		"greatest move":             moves([]int64{greatestInt}, nil),
		"greatest move behind one":  moves([]int64{1, greatestInt}, nil),
		"descending":                moves([]int64{2, 1}, nil, nil),
		"descending at the end":     moves([]int64{1, 3, 2}, nil, nil, nil),
		"twice the same":            moves([]int64{1, 1}, nil),
		"wrong in the middle":       moves([]int64{1}, []int64{1}, nil),
		"wrong behind right places": moves([]int64{1, 2, 3}, []int64{2}, []int64{3, 4}, nil),
	}
}

func TestErrorCodes(t *testing.T) {
	codes := []int64{impl.ErrNone, impl.ErrInvalid, impl.ErrRange, impl.ErrLimit, impl.ErrNotFound, impl.ErrState, impl.ErrSyntax}
	if !slices.Equal(codes, upTo(0, 6)) || impl.MaxPlaces != 40 {
		t.Errorf("codes are %v, MaxPlaces is %d", codes, impl.MaxPlaces)
	}
}

func TestIsGame(t *testing.T) {
	good := append(someGames(), emptyGame(1), emptyGame(40), fullGame(2), fullGame(40),
		impl.Game{Moves: [][]int64{{}}}, impl.Game{Moves: [][]int64{{2}, {}, nil}})
	for _, g := range good {
		if !impl.IsGame(g) {
			t.Errorf("%v is a game", g)
		}
	}
	for name, g := range badGames() {
		if impl.IsGame(g) {
			t.Errorf("%s: %v is no game", name, g)
		}
	}
}

func TestOrdinaryGame(t *testing.T) {
	g := parsed(t, "1.2.4,3,3.4,5,,6,")
	ends, code := impl.EndsOf(g)
	wantList(t, "EndsOf", ends, code, []int64{4, 6})
	won, code := impl.WonPlaces(g)
	wantList(t, "WonPlaces", won, code, []bool{true, true, true, false, false, true, false})
	misere, code := impl.WonInMisere(g)
	wantList(t, "WonInMisere", misere, code, []bool{true, false, false, true, true, false, true})
	grundy, code := impl.GrundyOf(g)
	wantList(t, "GrundyOf", grundy, code, []int64{2, 1, 1, 0, 0, 1, 0})
	fewest, code := impl.FewestMoves(g)
	wantList(t, "FewestMoves", fewest, code, []int64{1, 3, 1, 2, 0, 1, 0})
	most, code := impl.MostMoves(g)
	wantList(t, "MostMoves", most, code, []int64{4, 3, 3, 2, 0, 1, 0})
	lengths, code := impl.LengthsOf(g)
	wantList(t, "LengthsOf", lengths, code, []int64{1, 3, 1, 2, 0, 1, 0})
	plays, code := impl.CountPlays(g)
	wantList(t, "CountPlays", plays, code, []int64{4, 1, 2, 1, 1, 1, 1})
	reached, code := impl.ReachedFrom(g, 2)
	wantList(t, "ReachedFrom 2", reached, code, []int64{2, 3, 4, 5, 6})
	reached, code = impl.ReachedFrom(g, 1)
	wantList(t, "ReachedFrom 1", reached, code, []int64{1, 3, 5, 6})
	best, code := impl.BestMoves(g, 2)
	wantList(t, "BestMoves 2", best, code, []int64{3, 4})
	best, code = impl.BestMoves(g, 3)
	wantList(t, "BestMoves 3", best, code, nil)
	play, code := impl.PlayFrom(g, 0)
	wantList(t, "PlayFrom 0", play, code, []int64{4})
	play, code = impl.PlayFrom(g, 1)
	wantList(t, "PlayFrom 1", play, code, []int64{3, 5, 6})
}

// At a lost place the least move is made, even if another one makes the play longer.
func TestPlayFromALostPlace(t *testing.T) {
	g := parsed(t, "1.2,5,3,4,5,")
	lengths, code := impl.LengthsOf(g)
	wantList(t, "LengthsOf", lengths, code, []int64{4, 1, 3, 2, 1, 0})
	best, code := impl.BestMoves(g, 0)
	wantList(t, "BestMoves", best, code, nil)
	play, code := impl.PlayFrom(g, 0)
	wantList(t, "PlayFrom", play, code, []int64{1, 5})
}

// At a won place the least best move is made, even if a lesser one loses or another one is quicker.
func TestPlayFromAWonPlace(t *testing.T) {
	g := parsed(t, "1.2.4,2,3,4,")
	best, code := impl.BestMoves(g, 0)
	wantList(t, "BestMoves", best, code, []int64{2, 4})
	play, code := impl.PlayFrom(g, 0)
	wantList(t, "PlayFrom", play, code, []int64{2, 3, 4})
}

func TestGameOfOnePlace(t *testing.T) {
	for _, g := range []impl.Game{emptyGame(1), {Moves: [][]int64{{}}}, parsed(t, "")} {
		list, code := impl.EndsOf(g)
		wantList(t, "EndsOf", list, code, []int64{0})
		won, code := impl.WonPlaces(g)
		wantList(t, "WonPlaces", won, code, []bool{false})
		won, code = impl.WonInMisere(g)
		wantList(t, "WonInMisere", won, code, []bool{true})
		list, code = impl.GrundyOf(g)
		wantList(t, "GrundyOf", list, code, []int64{0})
		list, code = impl.FewestMoves(g)
		wantList(t, "FewestMoves", list, code, []int64{0})
		list, code = impl.MostMoves(g)
		wantList(t, "MostMoves", list, code, []int64{0})
		list, code = impl.LengthsOf(g)
		wantList(t, "LengthsOf", list, code, []int64{0})
		list, code = impl.CountPlays(g)
		wantList(t, "CountPlays", list, code, []int64{1})
		list, code = impl.ReachedFrom(g, 0)
		wantList(t, "ReachedFrom", list, code, []int64{0})
		list, code = impl.BestMoves(g, 0)
		wantList(t, "BestMoves", list, code, nil)
		list, code = impl.PlayFrom(g, 0)
		wantList(t, "PlayFrom", list, code, nil)
		sum, code := impl.SumOfGames(g, g)
		wantValue(t, "places of the sum", len(sum.Moves), code, 1, impl.ErrNone)
		same, code := impl.AreEqualGames(g, 0, g, 0)
		wantValue(t, "AreEqualGames", same, code, true, impl.ErrNone)
		text, code := impl.GameText(g)
		wantValue(t, "GameText", text, code, "", impl.ErrNone)
	}
}

// Of the full game each place is like a heap of as many things as there are places behind it.
func TestGameOfMaxPlaces(t *testing.T) {
	g := fullGame(impl.MaxPlaces)
	var won, misere []bool
	var fewest, plays []int64
	for behind := int64(39); behind >= 0; behind-- {
		won = append(won, behind > 0)
		misere = append(misere, behind != 1)
		fewest = append(fewest, min(behind, 1))
		plays = append(plays, max(1, int64(1)<<behind>>1))
	}
	down := upTo(0, 39)
	slices.Reverse(down)
	list, code := impl.EndsOf(g)
	wantList(t, "EndsOf", list, code, []int64{39})
	gotWon, code := impl.WonPlaces(g)
	wantList(t, "WonPlaces", gotWon, code, won)
	gotWon, code = impl.WonInMisere(g)
	wantList(t, "WonInMisere", gotWon, code, misere)
	list, code = impl.GrundyOf(g)
	wantList(t, "GrundyOf", list, code, down)
	list, code = impl.FewestMoves(g)
	wantList(t, "FewestMoves", list, code, fewest)
	list, code = impl.MostMoves(g)
	wantList(t, "MostMoves", list, code, down)
	list, code = impl.LengthsOf(g)
	wantList(t, "LengthsOf", list, code, fewest)
	list, code = impl.CountPlays(g)
	wantList(t, "CountPlays", list, code, plays)
	list, code = impl.ReachedFrom(g, 0)
	wantList(t, "ReachedFrom", list, code, upTo(0, 39))
	list, code = impl.BestMoves(g, 0)
	wantList(t, "BestMoves", list, code, []int64{39})
	list, code = impl.PlayFrom(g, 38)
	wantList(t, "PlayFrom", list, code, []int64{39})
	text, code := impl.GameText(g)
	if code != impl.ErrNone || !reflect.DeepEqual(parsed(t, text).Moves[:39], g.Moves[:39]) {
		t.Errorf("the full game does not come back from %q", text)
	}
	list, code = impl.EndsOf(emptyGame(40))
	wantList(t, "EndsOf 40 ends", list, code, upTo(0, 39))
}

func TestNoGames(t *testing.T) {
	for name, bad := range badGames() {
		list, code := impl.EndsOf(bad)
		wantNoList(t, name+": EndsOf", list, code, impl.ErrInvalid)
		won, code := impl.WonPlaces(bad)
		wantNoList(t, name+": WonPlaces", won, code, impl.ErrInvalid)
		won, code = impl.WonInMisere(bad)
		wantNoList(t, name+": WonInMisere", won, code, impl.ErrInvalid)
		list, code = impl.GrundyOf(bad)
		wantNoList(t, name+": GrundyOf", list, code, impl.ErrInvalid)
		list, code = impl.FewestMoves(bad)
		wantNoList(t, name+": FewestMoves", list, code, impl.ErrInvalid)
		list, code = impl.MostMoves(bad)
		wantNoList(t, name+": MostMoves", list, code, impl.ErrInvalid)
		list, code = impl.LengthsOf(bad)
		wantNoList(t, name+": LengthsOf", list, code, impl.ErrInvalid)
		list, code = impl.CountPlays(bad)
		wantNoList(t, name+": CountPlays", list, code, impl.ErrInvalid)
		text, code := impl.GameText(bad)
		wantValue(t, name+": GameText", text, code, "", impl.ErrInvalid)
	}
}

// ErrInvalid comes before ErrRange and before ErrLimit, whichever of the games is none.
func TestInvalidComesFirst(t *testing.T) {
	good := fullGame(40)
	for name, bad := range badGames() {
		for _, p := range []int64{0, -1, 41, leastInt, greatestInt} {
			list, code := impl.ReachedFrom(bad, p)
			wantNoList(t, name+": ReachedFrom", list, code, impl.ErrInvalid)
			list, code = impl.BestMoves(bad, p)
			wantNoList(t, name+": BestMoves", list, code, impl.ErrInvalid)
			list, code = impl.PlayFrom(bad, p)
			wantNoList(t, name+": PlayFrom", list, code, impl.ErrInvalid)
			same, code := impl.AreEqualGames(bad, p, good, 0)
			wantValue(t, name+": AreEqualGames", same, code, false, impl.ErrInvalid)
			same, code = impl.AreEqualGames(good, p, bad, 0)
			wantValue(t, name+": AreEqualGames", same, code, false, impl.ErrInvalid)
			same, code = impl.AreEqualGames(good, 0, bad, p)
			wantValue(t, name+": AreEqualGames", same, code, false, impl.ErrInvalid)
		}
		for _, other := range []impl.Game{good, emptyGame(1), bad} {
			sum, code := impl.SumOfGames(bad, other)
			wantNoList(t, name+": SumOfGames", sum.Moves, code, impl.ErrInvalid)
			sum, code = impl.SumOfGames(other, bad)
			wantNoList(t, name+": SumOfGames", sum.Moves, code, impl.ErrInvalid)
		}
	}
}

func TestNoPlaces(t *testing.T) {
	for _, g := range []impl.Game{emptyGame(1), fullGame(4), fullGame(40)} {
		n := int64(len(g.Moves))
		for _, p := range []int64{-1, n, n + 1, leastInt, greatestInt, 1 << 32, -1 << 32} {
			list, code := impl.ReachedFrom(g, p)
			wantNoList(t, "ReachedFrom", list, code, impl.ErrRange)
			list, code = impl.BestMoves(g, p)
			wantNoList(t, "BestMoves", list, code, impl.ErrRange)
			list, code = impl.PlayFrom(g, p)
			wantNoList(t, "PlayFrom", list, code, impl.ErrRange)
			same, code := impl.AreEqualGames(g, p, g, 0)
			wantValue(t, "AreEqualGames", same, code, false, impl.ErrRange)
			same, code = impl.AreEqualGames(g, 0, g, p)
			wantValue(t, "AreEqualGames", same, code, false, impl.ErrRange)
		}
		list, code := impl.ReachedFrom(g, n-1)
		wantList(t, "ReachedFrom the last place", list, code, []int64{n - 1})
	}
	// Each place is held against the game beside it.
	same, code := impl.AreEqualGames(fullGame(2), 3, fullGame(4), 1)
	wantValue(t, "AreEqualGames", same, code, false, impl.ErrRange)
	same, code = impl.AreEqualGames(fullGame(4), 1, fullGame(2), 3)
	wantValue(t, "AreEqualGames", same, code, false, impl.ErrRange)
	same, code = impl.AreEqualGames(fullGame(4), 3, fullGame(2), 1)
	wantValue(t, "AreEqualGames", same, code, true, impl.ErrNone)
}

func TestMexOf(t *testing.T) {
	tests := []struct {
		list       []int64
		want, code int64
	}{
		{nil, 0, impl.ErrNone},
		{[]int64{}, 0, impl.ErrNone},
		{[]int64{0}, 1, impl.ErrNone},
		{[]int64{1}, 0, impl.ErrNone},
		{[]int64{3, 0, 1, 0, 1}, 2, impl.ErrNone},
		{[]int64{2, 1, 0}, 3, impl.ErrNone},
		{[]int64{0, greatestInt, 1}, 2, impl.ErrNone},
		{upTo(0, 999), 1000, impl.ErrNone},
		{repeat(0, 1000), 1, impl.ErrNone},
		{upTo(0, 1000), 0, impl.ErrRange},
		{repeat(0, 1001), 0, impl.ErrRange},
		{[]int64{-1}, 0, impl.ErrRange},
		{[]int64{0, 1, leastInt}, 0, impl.ErrRange},
		{append(upTo(0, 998), -1), 0, impl.ErrRange},
	}
	for _, test := range tests {
		got, code := impl.MexOf(test.list)
		wantValue(t, "MexOf", got, code, test.want, test.code)
	}
}

func TestNimSumOf(t *testing.T) {
	tests := []struct {
		list       []int64
		want, code int64
	}{
		{nil, 0, impl.ErrNone},
		{[]int64{}, 0, impl.ErrNone},
		{[]int64{0}, 0, impl.ErrNone},
		{[]int64{7}, 7, impl.ErrNone},
		{[]int64{3, 5}, 6, impl.ErrNone},
		{[]int64{1, 2, 4, 8, 1}, 14, impl.ErrNone},
		{[]int64{5, 5, 5}, 5, impl.ErrNone},
		{[]int64{greatestInt, 1}, greatestInt - 1, impl.ErrNone},
		{repeat(6, 1000), 0, impl.ErrNone},
		{append(repeat(6, 999), 9), 15, impl.ErrNone},
		{repeat(6, 1001), 0, impl.ErrRange},
		{[]int64{-1}, 0, impl.ErrRange},
		{[]int64{3, leastInt}, 0, impl.ErrRange},
		{append(repeat(6, 999), -1), 0, impl.ErrRange},
	}
	for _, test := range tests {
		got, code := impl.NimSumOf(test.list)
		wantValue(t, "NimSumOf", got, code, test.want, test.code)
	}
}

func TestHeapGame(t *testing.T) {
	tests := []struct {
		k    int64
		list []int64
		want string
	}{
		{0, nil, ""},
		{0, []int64{1, 2}, ""},
		{0, upTo(1, 39), ""},
		{1, nil, ","},
		{1, []int64{1}, "1,"},
		{1, []int64{2, 39}, ","},
		{2, []int64{1, 2}, "1.2,2,"},
		{4, []int64{2}, "2,3,4,,"},
		{5, []int64{1, 3, 4}, "1.3.4,2.4.5,3.5,4,5,"},
		{39, []int64{39}, "39" + strings.Repeat(",", 39)},
		{39, []int64{}, strings.Repeat(",", 39)},
	}
	for _, test := range tests {
		heap, code := impl.HeapGame(test.k, test.list)
		text, _ := impl.GameText(heap)
		wantValue(t, "HeapGame", text, code, test.want, impl.ErrNone)
	}
	heap, code := impl.HeapGame(39, upTo(1, 39))
	got, _ := impl.GameText(heap)
	want, _ := impl.GameText(fullGame(40))
	wantValue(t, "HeapGame of 39", got, code, want, impl.ErrNone)
	for _, k := range []int64{-1, 40, leastInt, greatestInt} {
		heap, code := impl.HeapGame(k, []int64{1})
		wantNoList(t, "HeapGame", heap.Moves, code, impl.ErrRange)
	}
	for _, list := range [][]int64{{0}, {40}, {-1}, {2, 1}, {1, 1}, {1, 3, 3}, {0, 1}, {1, 2, 40}, {greatestInt}, {leastInt}, upTo(1, 40), repeat(1, 1000)} {
		heap, code := impl.HeapGame(5, list)
		wantNoList(t, "HeapGame", heap.Moves, code, impl.ErrRange)
	}
}

func TestSumOfGames(t *testing.T) {
	tests := []struct{ first, second, want string }{
		{"", "", ""},
		{"1,", "", "1,"},
		{"", "1,", "1,"},
		{"1,", "1,", "1.2,3,3,"},
		{"1,", ",", "2,3,,"},
		{",", "1,", "1,,3,"},
		{"1.2,2,", "1,", "1.2.4,3.5,3.4,5,5,"},
		{"1,", "1.2,2,", "1.2.3,2.4,5,4.5,5,"},
	}
	for _, test := range tests {
		sum, code := impl.SumOfGames(parsed(t, test.first), parsed(t, test.second))
		text, _ := impl.GameText(sum)
		wantValue(t, "SumOfGames", text, code, test.want, impl.ErrNone)
	}
	for n := 1; n <= 40; n++ {
		for m := 1; m <= 40; m++ {
			sum, code := impl.SumOfGames(emptyGame(n), emptyGame(m))
			if n*m <= 40 {
				wantValue(t, "places of the sum", len(sum.Moves), code, n*m, impl.ErrNone)
			} else {
				wantNoList(t, "SumOfGames", sum.Moves, code, impl.ErrLimit)
			}
		}
	}
	sum, code := impl.SumOfGames(fullGame(8), fullGame(5))
	if code != impl.ErrNone || !impl.IsGame(sum) || !slices.Equal(sum.Moves[7], []int64{8, 9, 12, 17, 22, 27, 32, 37}) {
		t.Errorf("SumOfGames of 8 and 5 places = %v, code %d", sum, code)
	}
}

func TestAreEqualGames(t *testing.T) {
	g, h := parsed(t, "1.2,2,"), parsed(t, "1,2.3,3,")
	values := [][]int64{{2, 1, 0}, {0, 2, 1, 0}}
	for p, x := range values[0] {
		for q, y := range values[1] {
			same, code := impl.AreEqualGames(g, int64(p), h, int64(q))
			wantValue(t, "AreEqualGames", same, code, x == y, impl.ErrNone)
		}
	}
}

func TestGameTexts(t *testing.T) {
	for _, text := range []string{"", ",", "1,", ",,", "1.2,2,", "2,,", "1.2.4,3,3.4,,", "10" + strings.Repeat(",", 10), strings.Repeat(",", 39), strings.Repeat(",", 38) + "39,"} {
		g, code := impl.ParseGame(text)
		if code != impl.ErrNone || len(g.Moves) != strings.Count(text, ",")+1 {
			t.Errorf("ParseGame(%q) = %v, code %d", text, g, code)
		}
		again, code := impl.GameText(g)
		wantValue(t, "GameText", again, code, text, impl.ErrNone)
	}
	bad := []string{
		"0", "1", "1,2", ".", ".,", "1.,", ".1,", "1..2,,", "01,", "1.02,,", "00,", "+1,", "-1,", "-0,", " 1,", "1 ,", "1,\n", "\n",
		"1, ", "1;", "x,", "1x,", "1.x,", "0x1,", "1_0,", "1e0,", "2.1,,", "1.1,", "2,", "1,1,", "1,0,", "1.2,", "\u0661,", "1\x00,",
		"18446744073709551617,", "9223372036854775807,", "99999999999999999999,", "40" + strings.Repeat(",", 39),
		strings.Repeat(",", 40), strings.Repeat("1,", 40), strings.Repeat(",", 100000), strings.Repeat("1.", 100000),
	}
	for _, text := range bad {
		g, code := impl.ParseGame(text)
		wantNoList(t, "ParseGame of a text of no game", g.Moves, code, impl.ErrSyntax)
	}
}

func TestGamesComeBackFromTheirTexts(t *testing.T) {
	for _, g := range someGames() {
		text, code := impl.GameText(g)
		if code != impl.ErrNone {
			t.Fatalf("GameText(%v): code %d", g, code)
		}
		back := parsed(t, text)
		if !slices.EqualFunc(back.Moves, g.Moves, slices.Equal) {
			t.Errorf("%v comes back from %q as %v", g, text, back)
		}
	}
}

// allPlays returns all lists of places that lead from the place p to an end.
func allPlays(g impl.Game, p int64) [][]int64 {
	if len(g.Moves[p]) == 0 {
		return [][]int64{nil}
	}
	var plays [][]int64
	for _, q := range g.Moves[p] {
		for _, rest := range allPlays(g, q) {
			plays = append(plays, append([]int64{q}, rest...))
		}
	}
	return plays
}

// canWin searches all plays; atEnd tells whether the player who cannot move has won.
func canWin(g impl.Game, p int64, atEnd bool) bool {
	if len(g.Moves[p]) == 0 {
		return atEnd
	}
	for _, q := range g.Moves[p] {
		if !canWin(g, q, atEnd) {
			return true
		}
	}
	return false
}

// lengthOf follows the definition of the length word by word.
func lengthOf(g impl.Game, p int64) int64 {
	won := canWin(g, p, false)
	length := int64(-1)
	for _, q := range g.Moves[p] {
		next := lengthOf(g, q)
		switch {
		case !won:
			length = max(length, next)
		case !canWin(g, q, false) && (length < 0 || next < length):
			length = next
		}
	}
	return length + 1
}

func TestPlacesAgainstAllPlays(t *testing.T) {
	for _, g := range someGames() {
		won, _ := impl.WonPlaces(g)
		misere, _ := impl.WonInMisere(g)
		fewest, _ := impl.FewestMoves(g)
		most, _ := impl.MostMoves(g)
		lengths, _ := impl.LengthsOf(g)
		counts, _ := impl.CountPlays(g)
		for place := range g.Moves {
			p := int64(place)
			plays := allPlays(g, p)
			shortest, longest := len(plays[0]), 0
			for _, play := range plays {
				shortest, longest = min(shortest, len(play)), max(longest, len(play))
			}
			got := []any{won[p], misere[p], fewest[p], most[p], lengths[p], counts[p]}
			want := []any{canWin(g, p, false), canWin(g, p, true), int64(shortest), int64(longest), lengthOf(g, p), int64(len(plays))}
			if !slices.Equal(got, want) {
				t.Errorf("place %d of %v: got %v, want %v", p, g, got, want)
			}
		}
	}
}

func TestMovesAgainstAllPlays(t *testing.T) {
	for _, g := range someGames() {
		for place, moves := range g.Moves {
			p := int64(place)
			reached := []int64{p}
			for _, play := range allPlays(g, p) {
				reached = append(reached, play...)
			}
			slices.Sort(reached)
			list, code := impl.ReachedFrom(g, p)
			wantList(t, "ReachedFrom", list, code, slices.Compact(reached))
			var best []int64
			for _, q := range moves {
				if !canWin(g, q, false) {
					best = append(best, q)
				}
			}
			list, code = impl.BestMoves(g, p)
			wantList(t, "BestMoves", list, code, best)
			var play []int64
			for q := p; len(g.Moves[q]) > 0; {
				next := g.Moves[q][0]
				for _, choice := range slices.Backward(g.Moves[q]) {
					if !canWin(g, choice, false) {
						next = choice
					}
				}
				play = append(play, next)
				q = next
			}
			list, code = impl.PlayFrom(g, p)
			wantList(t, "PlayFrom", list, code, play)
			if won, _ := impl.WonPlaces(g); won[p] != (len(list)%2 == 1) {
				t.Errorf("the play %v from %d of %v has another winner", list, p, g)
			}
		}
	}
}

func TestWonExactlyIfGrundyIsNotZero(t *testing.T) {
	for _, g := range append(someGames(), fullGame(40), emptyGame(40)) {
		won, code := impl.WonPlaces(g)
		grundy, codeToo := impl.GrundyOf(g)
		if code != impl.ErrNone || codeToo != impl.ErrNone || len(won) != len(g.Moves) || len(grundy) != len(g.Moves) {
			t.Fatalf("%v: codes %d and %d", g, code, codeToo)
		}
		for p, moves := range g.Moves {
			var behind []int64
			for _, q := range moves {
				behind = append(behind, grundy[q])
			}
			if least, _ := impl.MexOf(behind); won[p] != (grundy[p] != 0) || grundy[p] != least {
				t.Errorf("place %d of %v: won is %v, value %d, mex %d", p, g, won[p], grundy[p], least)
			}
		}
	}
}

func TestValuesOfSumsAreNimSums(t *testing.T) {
	games := someGames()
	for x := range games {
		g, h := games[x], games[(x*7+3)%len(games)]
		sum, code := impl.SumOfGames(g, h)
		if len(g.Moves)*len(h.Moves) > impl.MaxPlaces {
			wantNoList(t, "SumOfGames", sum.Moves, code, impl.ErrLimit)
			continue
		}
		values, _ := impl.GrundyOf(sum)
		first, _ := impl.GrundyOf(g)
		second, _ := impl.GrundyOf(h)
		var want []int64
		for _, a := range first {
			for _, b := range second {
				both, _ := impl.NimSumOf([]int64{a, b})
				want = append(want, both)
			}
		}
		wantList(t, "GrundyOf of the sum", values, code, want)
	}
}

// roomy returns a copy of a list with spare capacity behind it, and the whole of its memory.
func roomy(list []int64) ([]int64, []int64) {
	whole := append(slices.Clone(list), 77, 77, 77)
	return whole[:len(list)], whole
}

func TestArgumentsStayAsTheyAre(t *testing.T) {
	var memory, before [][]int64
	g := impl.Game{}
	for _, moves := range fullGame(5).Moves {
		list, whole := roomy(moves)
		g.Moves = append(g.Moves, list)
		memory = append(memory, whole)
	}
	numbers, whole := roomy([]int64{1, 2, 4})
	memory = append(memory, whole)
	for _, list := range memory {
		before = append(before, slices.Clone(list))
	}
	impl.IsGame(g)
	impl.EndsOf(g)
	impl.WonPlaces(g)
	impl.WonInMisere(g)
	impl.GrundyOf(g)
	impl.FewestMoves(g)
	impl.MostMoves(g)
	impl.LengthsOf(g)
	impl.CountPlays(g)
	impl.AreEqualGames(g, 0, g, 1)
	impl.GameText(g)
	impl.MexOf(numbers)
	impl.NimSumOf(numbers)
	for p := range int64(5) {
		for _, list := range [][]int64{first(impl.ReachedFrom(g, p)), first(impl.BestMoves(g, p)), first(impl.PlayFrom(g, p))} {
			spoil(list)
		}
	}
	for _, made := range []impl.Game{first(impl.SumOfGames(g, g)), first(impl.SumOfGames(g, emptyGame(1))), first(impl.SumOfGames(emptyGame(1), g)), first(impl.HeapGame(5, numbers))} {
		for _, list := range made.Moves {
			spoil(list)
		}
	}
	if !reflect.DeepEqual(memory, before) {
		t.Errorf("arguments have become %v", memory)
	}
}

func first[T any](value T, _ int64) T { return value }

// spoil writes over a list and over all the memory behind it.
func spoil(list []int64) {
	list = list[:cap(list)]
	for i := range list {
		list[i] = -5
	}
}

// A change of one list of a result, or an append to it, leaves the other lists as they are.
func TestListsOfResultsShareNoMemory(t *testing.T) {
	results := map[string]func() impl.Game{
		"ParseGame":  func() impl.Game { return parsed(t, "1.2.4,3,,4,") },
		"HeapGame":   func() impl.Game { return first(impl.HeapGame(4, []int64{1, 2})) },
		"SumOfGames": func() impl.Game { return first(impl.SumOfGames(fullGame(2), fullGame(3))) },
	}
	for name, game := range results {
		want := game()
		for p := range want.Moves {
			got := game()
			spoil(append(got.Moves[p], 1, 2, 3))
			spoil(got.Moves[p])
			got.Moves[p] = want.Moves[p]
			if !reflect.DeepEqual(got, want) {
				t.Errorf("%s: place %d shares memory: %v, want %v", name, p, got, want)
			}
		}
	}
}

// The same call has the same result, whatever calls and changes of results came before it.
func TestCallsKeepNoState(t *testing.T) {
	g := parsed(t, "1.2.4,3,3.4,,")
	for range 3 {
		list, code := impl.GrundyOf(g)
		wantList(t, "GrundyOf", list, code, []int64{2, 1, 1, 0, 0})
		spoil(list)
		heap, code := impl.HeapGame(2, []int64{1, 2})
		text, _ := impl.GameText(heap)
		wantValue(t, "HeapGame", text, code, "1.2,2,", impl.ErrNone)
		for _, moves := range heap.Moves {
			spoil(moves)
		}
	}
}
