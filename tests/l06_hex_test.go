package tests

import (
	"fmt"
	"reflect"
	"slices"
	"strings"
	"testing"

	"loop.example/g01388/impl"
)

// comb is a hex board as it is drawn, row by row with a sign for each cell: a second way to what
// the numbers tell.
type comb []string

// combOf returns the comb of a text, in which `/` stands between rows.
func combOf(text string) comb { return strings.Split(text, "/") }

func (c comb) text() string { return strings.Join(c, "/") }

// hex returns the numbers of the comb.
func (c comb) hex() impl.Hex {
	x := impl.Hex{Side: int64(len(c))}
	for _, row := range c {
		for _, sign := range row {
			x.Cells = append(x.Cells, int64(strings.IndexRune(".12", sign)))
		}
	}
	return x
}

// drawn returns the comb of a hex board.
func drawn(x impl.Hex) comb {
	var c comb
	for r := range x.Side {
		row := ""
		for _, owner := range x.Cells[r*x.Side : (r+1)*x.Side] {
			row += ".12"[owner : owner+1]
		}
		c = append(c, row)
	}
	return c
}

// wantHex checks a hex board, by its text, and the code beside it.
func wantHex(t *testing.T, what string, got impl.Hex, code int64, want string) {
	t.Helper()
	if code != impl.ErrNone || !reflect.DeepEqual(got, combOf(want).hex()) {
		t.Errorf("%s = %v, code %d; want %s", what, got, code, want)
	}
}

// wantNoHex checks that a hex board is the zero value beside the code of an error.
func wantNoHex(t *testing.T, what string, got impl.Hex, code, want int64) {
	t.Helper()
	if code != want || got.Side != 0 || len(got.Cells) != 0 {
		t.Errorf("%s = %v, code %d; want nothing and code %d", what, got, code, want)
	}
}

// cellAt is a cell by its row and column.
type cellAt struct{ row, column int }

func (c comb) number(a cellAt) int64 { return int64(len(c)*a.row + a.column) }

// cells returns the cells with a sign, in the order of their numbers.
func (c comb) cells(sign byte) []cellAt {
	var cells []cellAt
	for r, row := range c {
		for k := range row {
			if row[k] == sign {
				cells = append(cells, cellAt{r, k})
			}
		}
	}
	return cells
}

// count returns how many cells have a sign.
func (c comb) count(sign byte) int { return strings.Count(c.text(), string(sign)) }

// with returns the comb with another sign at a cell.
func (c comb) with(a cellAt, sign byte) comb {
	next := slices.Clone(c)
	row := []byte(c[a.row])
	row[a.column] = sign
	next[a.row] = string(row)
	return next
}

// sign returns the sign of a cell, and 0 outside of the comb.
func (c comb) sign(a cellAt) byte {
	if a.row < 0 || a.column < 0 || a.row >= len(c) || a.column >= len(c) {
		return 0
	}
	return c[a.row][a.column]
}

// around returns the places of the six neighbours, on the comb or not.
func (a cellAt) around() []cellAt {
	var places []cellAt
	for row := -1; row <= 1; row++ {
		for column := -1; column <= 1; column++ {
			if row != column {
				places = append(places, cellAt{a.row + row, a.column + column})
			}
		}
	}
	return places
}

// isFirst and isLast report whether a player starts at a cell, and whether it ends there.
func (c comb) isFirst(player byte, a cellAt) bool {
	return player == '1' && a.row == 0 || player == '2' && a.column == 0
}

func (c comb) isLast(player byte, a cellAt) bool {
	return player == '1' && a.row == len(c)-1 || player == '2' && a.column == len(c)-1
}

// joins reports whether a player joins.
func (c comb) joins(player byte) bool {
	var seen [8][8]bool
	var leads func(a cellAt) bool
	leads = func(a cellAt) bool {
		if c.sign(a) != player || seen[a.row][a.column] {
			return false
		}
		seen[a.row][a.column] = true
		return c.isLast(player, a) || slices.ContainsFunc(a.around(), leads)
	}
	for i := range c {
		for _, a := range []cellAt{{0, i}, {i, 0}} {
			if c.isFirst(player, a) && leads(a) {
				return true
			}
		}
	}
	return false
}

// joiner returns the number of the player who joins.
func (c comb) joiner() int64 {
	for player := int64(1); player <= 2; player++ {
		if c.joins(".12"[player]) {
			return player
		}
	}
	return 0
}

// mover returns the number of the mover, and 0 if a comb is no position.
func (c comb) mover() int64 {
	switch c.count('1') - c.count('2') {
	case 0:
		return 1
	case 1:
		return 2
	}
	return 0
}

// need returns the need of a player, -1 if there is no way: the needs of ways to all cells, made
// less again and again.
func (c comb) need(player byte) int64 {
	const far = 1000
	var needs [8][8]int64
	for r := range needs {
		copy(needs[r][:], repeat(far, 8))
	}
	best := int64(far)
	for range len(c) * len(c) {
		for price, sign := range []byte{player, '.'} {
			for _, a := range c.cells(sign) {
				least := int64(far)
				if c.isFirst(player, a) {
					least = 0
				}
				for _, near := range a.around() {
					if c.sign(near) != 0 {
						least = min(least, needs[near.row][near.column])
					}
				}
				needs[a.row][a.column] = min(needs[a.row][a.column], least+int64(price))
				if c.isLast(player, a) {
					best = min(best, needs[a.row][a.column])
				}
			}
		}
	}
	if best >= far {
		return -1
	}
	return best
}

// needBySets is need, by looking at each set of empty cells.
func (c comb) needBySets(player byte) int64 {
	need := int64(-1)
	empty := c.cells('.')
	for set := range 1 << len(empty) {
		next, size := c, int64(0)
		for k, a := range empty {
			if set>>k&1 == 1 {
				next = next.with(a, player)
				size++
			}
		}
		if (need < 0 || size < need) && next.joins(player) {
			need = size
		}
	}
	return need
}

// winners are known by the texts of combs.
type winners map[string]int64

func (w winners) of(c comb) int64 {
	key := c.text()
	if known, ok := w[key]; ok {
		return known
	}
	winner := 3 - c.mover()
	if c.count('.') == 0 {
		winner = c.joiner()
	}
	if len(w.moves(c)) > 0 {
		winner = c.mover()
	}
	w[key] = winner
	return winner
}

// moves returns the numbers of the cells by which the mover wins.
func (w winners) moves(c comb) []int64 {
	var moves []int64
	for _, a := range c.cells('.') {
		if w.of(c.with(a, ".12"[c.mover()])) == c.mover() {
			moves = append(moves, c.number(a))
		}
	}
	return moves
}

// dead returns the numbers of the dead cells.
func (c comb) dead() []int64 {
	var cells []int64
	for _, a := range c.cells('.') {
		if !c.matters(a, c.with(a, '1').cells('.')) {
			cells = append(cells, c.number(a))
		}
	}
	return cells
}

// matters reports whether the owner of a cell changes the joiner for some way to give other cells
// to the players.
func (c comb) matters(a cellAt, others []cellAt) bool {
	if len(others) == 0 {
		return c.with(a, '1').joiner() != c.with(a, '2').joiner()
	}
	return c.with(others[0], '1').matters(a, others[1:]) || c.with(others[0], '2').matters(a, others[1:])
}

// bridges returns the bridges of a player by the three ways in which they lie.
func (c comb) bridges(player byte) [][]int64 {
	var bridges [][]int64
	for _, a := range c.cells(player) {
		for _, way := range [][3]cellAt{
			{{1, 1}, {0, 1}, {1, 0}},
			{{1, -2}, {0, -1}, {1, -1}},
			{{2, -1}, {1, 0}, {1, -1}},
		} {
			at := func(k int) cellAt { return cellAt{a.row + way[k].row, a.column + way[k].column} }
			if c.sign(at(0)) == player && c.sign(at(1)) == '.' && c.sign(at(2)) == '.' {
				bridges = append(bridges, []int64{c.number(a), c.number(at(0))})
			}
		}
	}
	slices.SortFunc(bridges, slices.Compare)
	return bridges
}

// mirrored returns the comb with rows and columns, and the players, exchanged.
func (c comb) mirrored() comb {
	var mirror comb
	for k := range c {
		row := ""
		for r := range c {
			row += map[byte]string{'.': ".", '1': "2", '2': "1"}[c[r][k]]
		}
		mirror = append(mirror, row)
	}
	return mirror
}

// mirrorCell returns the number of the cell with row and column exchanged.
func mirrorCell(x impl.Hex, cell int64) int64 {
	return cell%x.Side*x.Side + cell/x.Side
}

// cut returns the comb of a side with signs, row by row.
func cut(side int, signs []byte) comb {
	var c comb
	for len(signs) > 0 {
		c, signs = append(c, string(signs[:side])), signs[side:]
	}
	return c
}

// filledCombs returns all combs of a side with some signs.
func filledCombs(side int, signs string) []comb {
	var combs []comb
	cells := make([]byte, side*side)
	var fill func(k int)
	fill = func(k int) {
		if k == len(cells) {
			combs = append(combs, cut(side, cells))
			return
		}
		for _, sign := range []byte(signs) {
			cells[k] = sign
			fill(k + 1)
		}
	}
	fill(0)
	return combs
}

// smallCombs returns all combs of the sides 1 to 3.
func smallCombs() []comb {
	return slices.Concat(filledCombs(1, ".12"), filledCombs(2, ".12"), filledCombs(3, ".12"))
}

// plainCombs returns those of all sides with the same sign everywhere.
func plainCombs() []comb {
	var combs []comb
	for side := 1; side <= 8; side++ {
		for _, sign := range ".12" {
			combs = append(combs, cut(side, []byte(strings.Repeat(string(sign), side*side))))
		}
	}
	return combs
}

// drawnComb returns a comb with so many cells of each kind, at any places.
func drawnComb(d *dice, side, empty, ones int) comb {
	twos := side*side - empty - ones
	signs := []byte(strings.Repeat(".", empty) + strings.Repeat("1", ones) + strings.Repeat("2", twos))
	for k := range signs {
		other := k + int(d.below(int64(len(signs)-k)))
		signs[k], signs[other] = signs[other], signs[k]
	}
	return cut(side, signs)
}

// drawnPositions returns positions of the sides 3 to 8, with from least to most empty cells, as far
// as they have so many.
func drawnPositions(count, least, most int) []comb {
	var d dice = 6
	var combs []comb
	for k := range count {
		side := 3 + k%6
		empty := min(least+int(d.below(int64(most-least+1))), side*side)
		combs = append(combs, drawnComb(&d, side, empty, (side*side-empty+1)/2))
	}
	return combs
}

// drawnCombs returns combs of the sides 2 to 8 that need not be positions.
func drawnCombs(count, mostEmpty int) []comb {
	var d dice = 66
	var combs []comb
	for k := range count {
		side := 2 + k%7
		empty := int(d.below(int64(min(mostEmpty, side*side) + 1)))
		combs = append(combs, drawnComb(&d, side, empty, int(d.below(int64(side*side-empty+1)))))
	}
	return combs
}

// manyCombs returns combs of all sides, with any number of empty cells.
func manyCombs() []comb {
	return slices.Concat(smallCombs(), plainCombs(), drawnPositions(300, 0, 64), drawnCombs(700, 64))
}

// positionsOfHex returns positions that can be searched: all small ones, and larger ones.
func positionsOfHex() []comb {
	positions := slices.DeleteFunc(smallCombs(), func(c comb) bool { return c.mover() == 0 })
	return slices.Concat(positions, drawnPositions(60, 0, 8), drawnPositions(30, 9, 9))
}

// filledWith returns a hex board of a side with the same number in all cells.
func filledWith(side, owner int64) impl.Hex {
	return impl.Hex{Side: side, Cells: repeat(owner, int(side*side))}
}

// badHexes returns some of each kind of what is not a hex board.
func badHexes() map[string]impl.Hex {
	bad := map[string]impl.Hex{"zero value": {}, "a cell without a side": {Cells: []int64{0}}, "9 by 9": filledWith(9, 0), "10 by 10": filledWith(10, 1)}
	// Squares of some of these sides overflow to 0 or to small numbers.
	for _, side := range []int64{-1, -2, -3, 0, 9, 1 << 32, 1<<32 + 1, -1 << 32, 1 << 63 / 3, leastInt, leastInt + 1, greatestInt, 256 + 2, 1<<63 - 2} {
		for _, count := range []int{0, 1, 4, 9, 64, 81} {
			bad[fmt.Sprintf("side %d with %d cells", side, count)] = impl.Hex{Side: side, Cells: repeat(0, count)}
		}
	}
	for side := int64(1); side <= 8; side++ {
		for _, count := range []int64{0, side*side - 1, side*side + 1, side, (side - 1) * (side - 1), (side + 1) * (side + 1), 2 * side * side, 100} {
			if count != side*side {
				bad[fmt.Sprintf("side %d with %d cells", side, count)] = impl.Hex{Side: side, Cells: repeat(0, int(count))}
			}
		}
		for _, owner := range []int64{-1, 3, -2, 4, 256, 1<<32 + 1, leastInt, leastInt + 1, greatestInt} {
			for _, k := range []int64{0, side*side - 1, side * side / 2} {
				x := filledWith(side, 0)
				x.Cells[k] = owner
				bad[fmt.Sprintf("side %d with the owner %d of the cell %d", side, owner, k)] = x
			}
		}
	}
	return bad
}

func TestHexConstants(t *testing.T) {
	if impl.MaxHexSide != 8 || impl.MaxEmpty != 9 {
		t.Errorf("MaxHexSide, MaxEmpty are %d, %d", impl.MaxHexSide, impl.MaxEmpty)
	}
}

func TestIsHex(t *testing.T) {
	for _, c := range manyCombs() {
		if !impl.IsHex(c.hex()) {
			t.Errorf("%s is a hex board", c.text())
		}
	}
	for name, x := range badHexes() {
		if impl.IsHex(x) {
			t.Errorf("%s: %v is no hex board", name, x)
		}
	}
}

// wantNoPosition checks that the functions of a position return an error, and zero values beside it.
func wantNoPosition(t *testing.T, what string, x impl.Hex, want int64) {
	t.Helper()
	mover, code := impl.HexMover(x)
	wantValue(t, what+": HexMover", mover, code, 0, want)
	wantNoHexSearch(t, what, x, want)
}

func wantNoHexSearch(t *testing.T, what string, x impl.Hex, want int64) {
	t.Helper()
	winner, code := impl.HexWinner(x)
	wantValue(t, what+": HexWinner", winner, code, 0, want)
	moves, code := impl.HexMoves(x)
	wantNoList(t, what+": HexMoves", moves, code, want)
}

// wantNoHexPlayer checks that the functions of a player return an error, and zero values beside it.
func wantNoHexPlayer(t *testing.T, what string, x impl.Hex, player, want int64) {
	t.Helper()
	what = fmt.Sprintf("%s, player %d", what, player)
	bridges, code := impl.HexBridges(x, player)
	wantNoList(t, what+": HexBridges", bridges, code, want)
	need, code := impl.NeedOf(x, player)
	wantValue(t, what+": NeedOf", need, code, 0, want)
}

// ErrInvalid comes before all other errors, whatever is beside the hex board.
func TestHexInvalidComesFirst(t *testing.T) {
	for name, bad := range badHexes() {
		wantNoPosition(t, name, bad, impl.ErrInvalid)
		joiner, code := impl.JoinerOf(bad)
		wantValue(t, name+": JoinerOf", joiner, code, 0, impl.ErrInvalid)
		dead, code := impl.DeadCells(bad)
		wantNoList(t, name+": DeadCells", dead, code, impl.ErrInvalid)
		mirror, code := impl.MirrorHex(bad)
		wantNoHex(t, name+": MirrorHex", mirror, code, impl.ErrInvalid)
		for _, player := range []int64{1, 2, 0, 3, -1, leastInt, greatestInt} {
			wantNoHexPlayer(t, name, bad, player, impl.ErrInvalid)
		}
	}
}

func TestHexPlayersOutOfRange(t *testing.T) {
	for _, text := range []string{".", "1", "2", "12/12", "..1/.../.1.", "222/.1./..."} {
		for _, player := range []int64{0, 3, -1, -2, 4, 256 + 1, 1<<32 + 1, leastInt, leastInt + 1, greatestInt} {
			wantNoHexPlayer(t, text, combOf(text).hex(), player, impl.ErrRange)
		}
	}
}

func TestHexNeighboursByHand(t *testing.T) {
	tests := map[[2]int64]string{
		{1, 0}: "",
		{2, 0}: "1 2", {2, 1}: "0 2 3", {2, 2}: "0 1 3", {2, 3}: "1 2",
		// Corners, edges, and the inner cell of the Side 3.
		{3, 0}: "1 3", {3, 1}: "0 2 3 4", {3, 2}: "1 4 5",
		{3, 3}: "0 1 4 6", {3, 4}: "1 2 3 5 6 7", {3, 5}: "2 4 7 8",
		{3, 6}: "3 4 7", {3, 7}: "4 5 6 8", {3, 8}: "5 7",
		// Corners, edges and inner cells of the Side 8.
		{8, 0}: "1 8", {8, 7}: "6 14 15", {8, 56}: "48 49 57", {8, 63}: "55 62",
		{8, 3}: "2 4 10 11", {8, 24}: "16 17 25 32", {8, 31}: "23 30 38 39", {8, 59}: "51 52 58 60",
		{8, 9}: "1 2 8 10 16 17", {8, 27}: "19 20 26 28 34 35", {8, 54}: "46 47 53 55 61 62",
	}
	for at, want := range tests {
		near, code := impl.HexNeighbours(at[0], at[1])
		wantList(t, fmt.Sprint("HexNeighbours of ", at), near, code, numbers(want))
	}
}

func TestHexNeighbours(t *testing.T) {
	for _, c := range plainCombs() {
		n := int64(len(c))
		for _, a := range slices.Concat(c.cells('.'), c.cells('1')) {
			var want []int64
			for _, near := range a.around() {
				if c.sign(near) != 0 {
					want = append(want, c.number(near))
				}
			}
			near, code := impl.HexNeighbours(n, c.number(a))
			wantList(t, fmt.Sprint("HexNeighbours of ", n, a), near, code, want)
			// Neighbours of a cell have it as theirs.
			for _, cell := range near {
				if !slices.Contains(first(impl.HexNeighbours(n, cell)), c.number(a)) {
					t.Errorf("Side %d: %d is not a neighbour of %d", n, c.number(a), cell)
				}
			}
		}
		for _, cell := range []int64{-1, n * n, n*n + 1, -2, -n, 64 + n*n, 1 << 32, leastInt, leastInt + 1, greatestInt} {
			near, code := impl.HexNeighbours(n, cell)
			wantNoList(t, fmt.Sprint("HexNeighbours of ", n, cell), near, code, impl.ErrRange)
		}
	}
	for _, n := range []int64{0, -1, 9, 10, -8, 256 + 3, 1 << 31, 1 << 32, 1<<32 + 3, 3037000500, leastInt, leastInt + 3, greatestInt} {
		for _, cell := range []int64{0, 1, 4, 63, 64, 80, -1, 1 << 32, leastInt, greatestInt} {
			near, code := impl.HexNeighbours(n, cell)
			wantNoList(t, fmt.Sprint("HexNeighbours of ", n, cell), near, code, impl.ErrRange)
		}
	}
}

// hexCase tells what is known of a hex board; a mover 0 stands for no position, a need of -1 for no
// way. Lists are written with blanks.
type hexCase struct {
	text                  string
	joiner, mover, winner int64
	moves, dead           string
	needs                 [2]int64
}

func hexCases() []hexCase {
	return []hexCase{
		// One cell.
		{".", 0, 1, 1, "0", "", [2]int64{1, 1}},
		{"1", 1, 2, 1, "", "", [2]int64{0, -1}},
		{"2", 2, 0, 0, "", "", [2]int64{-1, 0}},
		// The Side 2, behind no moves and behind one.
		{"../..", 0, 1, 1, "1 2", "", [2]int64{2, 2}},
		{"1./..", 0, 2, 2, "2", "", [2]int64{1, 2}},
		{".1/..", 0, 2, 1, "", "0", [2]int64{1, 2}},
		{"../1.", 0, 2, 1, "", "3", [2]int64{1, 2}},
		{"../.1", 0, 2, 2, "1", "", [2]int64{1, 2}},
		{"2./..", 0, 0, 0, "", "", [2]int64{2, 1}},
		{".2/..", 0, 0, 0, "", "3", [2]int64{2, 1}},
		// Behind two moves: the player 1 wins, or cannot.
		{"12/..", 0, 1, 1, "2", "3", [2]int64{1, 1}},
		{"1./2.", 0, 1, 2, "", "", [2]int64{2, 1}},
		{"2./1.", 0, 1, 1, "1", "3", [2]int64{1, 1}},
		{"21/..", 0, 1, 1, "2 3", "", [2]int64{1, 2}},
		// One player joins, and the only empty cell is dead.
		{"12/1.", 1, 2, 1, "", "3", [2]int64{0, -1}},
		{"21/1.", 1, 2, 1, "", "3", [2]int64{0, -1}},
		{"12/2.", 2, 0, 0, "", "3", [2]int64{-1, 0}},
		// The last empty cell tells who joins.
		{"12/.1", 0, 2, 2, "2", "", [2]int64{1, 1}},
		{"1./21", 0, 2, 2, "1", "", [2]int64{1, 1}},
		// Full hex boards.
		{"12/21", 2, 1, 2, "", "", [2]int64{-1, 0}},
		{"11/22", 2, 1, 2, "", "", [2]int64{-1, 0}},
		{"12/12", 1, 1, 1, "", "", [2]int64{0, -1}},
		{"21/12", 1, 1, 1, "", "", [2]int64{0, -1}},
		{"11/11", 1, 0, 0, "", "", [2]int64{0, -1}},
		{"22/22", 2, 0, 0, "", "", [2]int64{-1, 0}},
		// The Side 3 with exactly as many empty cells as may be searched.
		{".../.../...", 0, 1, 1, "2 3 4 5 6", "", [2]int64{3, 3}},
		{".../.1./...", 0, 2, 1, "", "", [2]int64{2, 3}},
		// The mover has joined already, and so has the other player.
		{"12./12./12.", 1, 1, 1, "2 5 8", "2 5 8", [2]int64{0, -1}},
		{"222/111/1..", 2, 2, 2, "7 8", "7 8", [2]int64{-1, 0}},
		{"222/11./1..", 2, 1, 2, "", "5 7 8", [2]int64{-1, 0}},
		{"21./12./1..", 1, 2, 1, "", "2 5 7 8", [2]int64{0, -1}},
		// Cells that touch in a corner of the paper only do not join.
		{"1../.1./..1", 0, 0, 0, "", "", [2]int64{2, 3}},
		{"2../.2./..2", 0, 0, 0, "", "", [2]int64{3, 2}},
		{"..1/.1./1..", 1, 0, 0, "", "0 1 3 5 7 8", [2]int64{0, -1}},
		{"..2/.2./2..", 2, 0, 0, "", "0 1 3 5 7 8", [2]int64{-1, 0}},
	}
}

func TestHexByHand(t *testing.T) {
	for _, want := range hexCases() {
		x := combOf(want.text).hex()
		joiner, code := impl.JoinerOf(x)
		wantValue(t, "JoinerOf of "+want.text, joiner, code, want.joiner, impl.ErrNone)
		dead, code := impl.DeadCells(x)
		wantList(t, "DeadCells of "+want.text, dead, code, numbers(want.dead))
		for player, need := range want.needs {
			wantNeed(t, want.text, x, int64(player)+1, need)
		}
		if want.mover == 0 {
			wantNoPosition(t, want.text, x, impl.ErrState)
			continue
		}
		mover, code := impl.HexMover(x)
		wantValue(t, "HexMover of "+want.text, mover, code, want.mover, impl.ErrNone)
		winner, code := impl.HexWinner(x)
		wantValue(t, "HexWinner of "+want.text, winner, code, want.winner, impl.ErrNone)
		moves, code := impl.HexMoves(x)
		wantList(t, "HexMoves of "+want.text, moves, code, numbers(want.moves))
	}
}

// wantNeed checks the need of a player; -1 stands for no way.
func wantNeed(t *testing.T, text string, x impl.Hex, player, want int64) {
	t.Helper()
	need, code := impl.NeedOf(x, player)
	what := fmt.Sprintf("NeedOf of %s, player %d", text, player)
	if want < 0 {
		wantValue(t, what, need, code, 0, impl.ErrNotFound)
	} else {
		wantValue(t, what, need, code, want, impl.ErrNone)
	}
}

func TestJoinerOf(t *testing.T) {
	tests := map[string]int64{
		// Ways that turn back, up and to the left.
		"12222/12111/12121/11121/22221": 1,
		"22222/11112/22212/21112/22222": 2,
		"11121/12121/11121/22221/11111": 1,
		"21222/22212/11122/12212/12212": 2,
		"1.../1.../1.../....":           0,
		"222./..../..../....":           0,
		"..../.1../.1../.1..":           0,
		"..../.222/..../....":           0,
		"...1/..1./.1../1...":           1,
		"...2/..2./.2../2...":           2,
		// The edge of the other player does not join.
		"111./..../..../....": 0,
		"1111/..../..../....": 0,
		"2.../2.../2.../2...": 0,
	}
	for text, want := range tests {
		joiner, code := impl.JoinerOf(combOf(text).hex())
		wantValue(t, "JoinerOf of "+text, joiner, code, want, impl.ErrNone)
	}
	for _, c := range manyCombs() {
		joiner, code := impl.JoinerOf(c.hex())
		wantValue(t, "JoinerOf of "+c.text(), joiner, code, c.joiner(), impl.ErrNone)
	}
}

func TestHexMover(t *testing.T) {
	for _, c := range manyCombs() {
		if want := c.mover(); want != 0 {
			mover, code := impl.HexMover(c.hex())
			wantValue(t, "HexMover of "+c.text(), mover, code, want, impl.ErrNone)
		} else {
			wantNoPosition(t, c.text(), c.hex(), impl.ErrState)
		}
	}
}

// A hex board with too many empty cells has ErrState if it is no position, otherwise ErrLimit, but
// for functions that need no search.
func TestHexLimit(t *testing.T) {
	var d dice = 60
	for side := 4; side <= 8; side++ {
		for _, empty := range []int{10, 11, 13, side * side} {
			c := drawnComb(&d, side, min(empty, side*side), max(side*side-empty+1, 0)/2)
			x := c.hex()
			wantNoHexSearch(t, c.text(), x, impl.ErrLimit)
			dead, code := impl.DeadCells(x)
			wantNoList(t, "DeadCells of "+c.text(), dead, code, impl.ErrLimit)
			mover, code := impl.HexMover(x)
			wantValue(t, "HexMover of "+c.text(), mover, code, c.mover(), impl.ErrNone)
		}
		for _, more := range []int{2, -1, 3, -2} {
			ones := (side*side - 10 + more) / 2
			for _, empty := range []int{10, 11} {
				c := drawnComb(&d, side, empty, min(max(ones, 0), side*side-empty))
				if c.mover() != 0 {
					continue
				}
				wantNoPosition(t, c.text(), c.hex(), impl.ErrState)
				dead, code := impl.DeadCells(c.hex())
				wantNoList(t, "DeadCells of "+c.text(), dead, code, impl.ErrLimit)
			}
		}
	}
	for text, want := range map[string]int64{
		"1212/1..2/..../....": impl.ErrLimit, "1212/..../..../....": impl.ErrLimit, "121./.21./..../....": impl.ErrLimit,
		"1211/1..2/..../....": impl.ErrState, "2212/1..2/..../....": impl.ErrState, "1111/..../..../....": impl.ErrState, "2.../..../..../....": impl.ErrState,
	} {
		wantNoHexSearch(t, text, combOf(text).hex(), want)
	}
}

// Winners and winning moves are those of another search.
func TestHexWinners(t *testing.T) {
	known := winners{}
	for _, c := range positionsOfHex() {
		winner, code := impl.HexWinner(c.hex())
		wantValue(t, "HexWinner of "+c.text(), winner, code, known.of(c), impl.ErrNone)
		moves, code := impl.HexMoves(c.hex())
		wantList(t, "HexMoves of "+c.text(), moves, code, known.moves(c))
	}
}

// The positions of the tests have both movers, both winners, and any number of winning moves.
func TestPositionsOfHexAreOfAllKinds(t *testing.T) {
	kinds := map[string]int{}
	for _, c := range positionsOfHex() {
		winner, moves := first(impl.HexWinner(c.hex())), first(impl.HexMoves(c.hex()))
		kinds[fmt.Sprintf("%d moves, %d joins, %d wins, one way %v, empty %v", c.mover(), c.joiner(), winner, len(moves) == 1, c.count('.') > 0)]++
		kinds[fmt.Sprintf("large, %d moves, %d wins, decided %v", c.mover(), winner, c.joiner() != 0 || len(c) < 4)]++
	}
	for mover := 1; mover <= 2; mover++ {
		for winner := 1; winner <= 2; winner++ {
			for _, kind := range []string{
				fmt.Sprintf("%d moves, %d joins, %d wins, one way false, empty true", mover, winner, winner),
				fmt.Sprintf("%d moves, 0 joins, %d wins, one way false, empty true", mover, winner),
				fmt.Sprintf("large, %d moves, %d wins, decided false", mover, winner),
			} {
				if kinds[kind] == 0 {
					t.Errorf("there are none of the kind %q", kind)
				}
			}
		}
		if kind := fmt.Sprintf("%d moves, 0 joins, %d wins, one way true, empty true", mover, mover); kinds[kind] == 0 {
			t.Errorf("there are none of the kind %q", kind)
		}
	}
}

// Promise 6, first half: on full hex boards just one player joins.
func TestOneJoinsOnFullHexBoards(t *testing.T) {
	var d dice = 16
	full := slices.Concat(filledCombs(1, "12"), filledCombs(2, "12"), filledCombs(3, "12"), filledCombs(4, "12"))
	for k := range 700 {
		side := 2 + k%7
		full = append(full, drawnComb(&d, side, 0, int(d.below(int64(side*side+1)))), drawnComb(&d, side, 0, side*side/2))
	}
	for _, c := range full {
		x := c.hex()
		joiner, code := impl.JoinerOf(x)
		if joiner != 1 && joiner != 2 {
			t.Fatalf("JoinerOf of %s = %d", c.text(), joiner)
		}
		wantValue(t, "JoinerOf of "+c.text(), joiner, code, c.joiner(), impl.ErrNone)
		wantNeed(t, c.text(), x, joiner, 0)
		wantNeed(t, c.text(), x, 3-joiner, -1)
		if c.mover() != 0 {
			winner, code := impl.HexWinner(x)
			wantValue(t, "HexWinner of "+c.text(), winner, code, joiner, impl.ErrNone)
			moves, code := impl.HexMoves(x)
			wantList(t, "HexMoves of "+c.text(), moves, code, nil)
		}
	}
}

// taken returns the position behind the move of its mover at a cell.
func taken(x impl.Hex, cell int64) impl.Hex {
	next := impl.Hex{Side: x.Side, Cells: slices.Clone(x.Cells)}
	next.Cells[cell] = first(impl.HexMover(x))
	return next
}

// emptyCells returns the empty cells of a hex board.
func emptyCells(x impl.Hex) []int64 {
	var cells []int64
	for cell, owner := range x.Cells {
		if owner == 0 {
			cells = append(cells, int64(cell))
		}
	}
	return cells
}

// Promise 6, second half: the winner stays behind winning moves; and behind all moves of the other
// player, as none of them wins.
func TestWinnerStaysBehindWinningMoves(t *testing.T) {
	for _, c := range positionsOfHex() {
		x := c.hex()
		mover, winner, moves := first(impl.HexMover(x)), first(impl.HexWinner(x)), first(impl.HexMoves(x))
		if c.count('.') > 0 && (winner == mover) != (len(moves) > 0) {
			t.Errorf("%s: %d moves, %d wins, by %v", c.text(), mover, winner, moves)
		}
		for _, cell := range emptyCells(x) {
			want := mover
			if !slices.Contains(moves, cell) {
				want = 3 - mover
			}
			behind, code := impl.HexWinner(taken(x, cell))
			wantValue(t, fmt.Sprintf("HexWinner of %s behind %d", c.text(), cell), behind, code, want, impl.ErrNone)
		}
	}
}

// The guarantee: who wins is the winner behind its best moves, whatever the other player does.
func TestWinnersPlayToTheEnd(t *testing.T) {
	var d dice = 26
	for _, c := range slices.Concat(drawnPositions(200, 4, 9), []comb{combOf("."), combOf("../.."), combOf(".../.../..."), combOf(".../1../...")}) {
		x := c.hex()
		winner := first(impl.HexWinner(x))
		for empty := emptyCells(x); len(empty) > 0; empty = emptyCells(x) {
			cell := empty[d.below(int64(len(empty)))]
			if first(impl.HexMover(x)) == winner {
				moves := first(impl.HexMoves(x))
				if len(moves) == 0 {
					t.Fatalf("%s: %d wins, but has no move", drawn(x).text(), winner)
				}
				cell = moves[d.below(int64(len(moves)))]
			}
			x = taken(x, cell)
		}
		joiner, code := impl.JoinerOf(x)
		wantValue(t, "JoinerOf behind "+c.text(), joiner, code, winner, impl.ErrNone)
	}
}

// combsToFill returns combs, not all of them positions, with at most 9 empty cells.
func combsToFill() []comb {
	return slices.Concat(smallCombs(), drawnPositions(60, 0, 9), drawnCombs(60, 9))
}

func TestDeadCells(t *testing.T) {
	tests := map[string]string{
		// None, and all.
		"1.2/.../2.1": "", "...2/2221/1112/2122": "0 1 2", "111/1../1..": "4 5 7 8", "222/222/22.": "8",
		// Cells behind the edge of the own player, closed by the other one.
		".1./1../...": "0", "..1/.1./...": "0 1 3",
		// Cells that are shut in.
		"11111/1.221/12.21/12211/11111": "6 12",
		".211/2211/1122/112.":           "0 15",
	}
	for text, want := range tests {
		dead, code := impl.DeadCells(combOf(text).hex())
		wantList(t, "DeadCells of "+text, dead, code, numbers(want))
	}
	for _, c := range combsToFill() {
		dead, code := impl.DeadCells(c.hex())
		wantList(t, "DeadCells of "+c.text(), dead, code, c.dead())
	}
}

// The guarantee: dead cells change no winner. Two of them, one for each player, leave the mover as
// it is.
func TestDeadCellsChangeNoWinner(t *testing.T) {
	pairs := 0
	for _, c := range positionsOfHex() {
		x := c.hex()
		winner, dead := first(impl.HexWinner(x)), first(impl.DeadCells(x))
		for _, one := range dead {
			for _, other := range dead {
				if one == other {
					continue
				}
				pairs++
				next := impl.Hex{Side: x.Side, Cells: slices.Clone(x.Cells)}
				next.Cells[one], next.Cells[other] = 1, 2
				behind, code := impl.HexWinner(next)
				wantValue(t, fmt.Sprintf("HexWinner of %s with %d and %d taken", c.text(), one, other), behind, code, winner, impl.ErrNone)
			}
		}
	}
	if pairs < 1000 {
		t.Errorf("there are only %d pairs of dead cells", pairs)
	}
}

// bridgesText writes bridges.
func bridgesText(bridges [][]int64) string {
	text := fmt.Sprint(bridges)
	return text[1 : len(text)-1]
}

func TestHexBridgesByHand(t *testing.T) {
	tests := map[string][2]string{
		".": {}, "1": {}, "2": {}, "../..": {}, "11/22": {},
		// The three ways in which bridges lie, each also of the player 2.
		"1./.1":       {"[0 3]", ""},
		"2./.2":       {"", "[0 3]"},
		"..1/1../...": {"[2 3]", ""},
		"..2/2../...": {"", "[2 3]"},
		"..1/.../.1.": {"[2 7]", ""},
		".2./.../2..": {"", "[1 6]"},
		// One of the two cells between is not empty, or both are not.
		"11/.1": {}, "1./21": {}, "12/.1": {}, "12/21": {}, "11/11": {}, "2./12": {}, "..1/.2./.1.": {}, "..1/..1/.1.": {}, "..1/12./...": {}, ".21/1../...": {},
		// Neighbours, cells far from each other, and cells of both players.
		"11/..": {}, ".1/1.": {}, "1./1.": {}, "1.1/.../...": {}, "1../.../1..": {}, "1../.../..1": {}, "..1/.../1..": {}, "1../.../.1.": {}, "1./.2": {}, "..1/.../.2.": {},
		// The lesser cell first, in lexicographic order.
		"1.1/.../.1.":                   {"[2 7]", ""},
		"1../.1./..1":                   {"[0 4] [4 8]", ""},
		"1.2/.1./2.1":                   {"[0 4] [4 8]", ""},
		"...1./.1..1/..1../1..1./.1...": {"[3 6] [3 9] [3 12] [6 12] [6 15] [9 12] [9 18] [12 15] [12 18] [12 21] [15 21] [18 21]", ""},
		"...2./.2..2/..2../2..2./.2...": {"", "[3 6] [3 9] [3 12] [6 12] [6 15] [9 12] [9 18] [12 15] [12 18] [12 21] [15 21] [18 21]"},
		"1......./......../......../......../......../......../......../.......1": {},
		"1......./.1....../......2./......../....2.../......../......1./.......1": {"[0 9] [54 63]", ""},
	}
	for text, want := range tests {
		for player := range int64(2) {
			bridges, code := impl.HexBridges(combOf(text).hex(), player+1)
			wantValue(t, fmt.Sprintf("HexBridges of %s, player %d", text, player+1), bridgesText(bridges), code, want[player], impl.ErrNone)
		}
	}
}

func TestHexBridges(t *testing.T) {
	for _, c := range manyCombs() {
		for player := int64(1); player <= 2; player++ {
			bridges, code := impl.HexBridges(c.hex(), player)
			wantValue(t, fmt.Sprintf("HexBridges of %s, player %d", c.text(), player), bridgesText(bridges), code, bridgesText(c.bridges(".12"[player])), impl.ErrNone)
		}
	}
}

func TestNeedOf(t *testing.T) {
	tests := map[string][2]int64{
		"......../......../......../......../......../......../......../........": {8, 8},
		"11111111/......../......../......../......../......../......../........": {7, 8},
		"......../......../..1...../......../......2./......../1......./........": {6, 7},
		// A way that is longer than the Side, and others that turn back.
		"...../.2222/...../2222./.....": {9, 1},
		".2.../.2.2./.2.2./.2.2./...2.": {5, 3},
		// Own cells cost nothing, wherever they lie.
		"...../.2222/11111/2222./.....": {4, 1},
		"1.1.1/22222/...../...../.....": {-1, 0},
		"1.1.1/2222./...../...../.....": {4, 1},
	}
	for text, want := range tests {
		for player, need := range want {
			wantNeed(t, text, combOf(text).hex(), int64(player)+1, need)
		}
	}
	for _, c := range manyCombs() {
		for player := int64(1); player <= 2; player++ {
			wantNeed(t, c.text(), c.hex(), player, c.need(".12"[player]))
		}
	}
	for _, c := range slices.Concat(smallCombs(), drawnCombs(70, 7)) {
		for player := int64(1); player <= 2; player++ {
			wantNeed(t, c.text(), c.hex(), player, c.needBySets(".12"[player]))
		}
	}
}

// A player has no way exactly if the other one joins, and needs no cell exactly if it joins itself.
func TestNeedsAndJoiners(t *testing.T) {
	for _, c := range manyCombs() {
		joiner := first(impl.JoinerOf(c.hex()))
		for player := int64(1); player <= 2; player++ {
			need, code := impl.NeedOf(c.hex(), player)
			if (code == impl.ErrNotFound) != (joiner == 3-player) || (code == impl.ErrNone && need == 0) != (joiner == player) {
				t.Errorf("%s: %d joins, but the player %d has the need %d, code %d", c.text(), joiner, player, need, code)
			}
		}
	}
}

func TestMirrorHex(t *testing.T) {
	tests := map[string]string{
		".": ".", "1": "2", "2": "1", "../..": "../..", ".1/.2": "../21", "12/21": "21/12", "11/..": "2./2.",
		"12./.1./2.1": "2.1/12./..2", "1../2../...": "21./.../...",
		"1......./......../......../......../......../......../......../2.......": "2......1/......../......../......../......../......../......../........",
	}
	for text, want := range tests {
		mirror, code := impl.MirrorHex(combOf(text).hex())
		wantHex(t, "MirrorHex of "+text, mirror, code, want)
	}
	for _, c := range manyCombs() {
		mirror, code := impl.MirrorHex(c.hex())
		wantHex(t, "MirrorHex of "+c.text(), mirror, code, c.mirrored().text())
		again, code := impl.MirrorHex(mirror)
		wantHex(t, "MirrorHex twice of "+c.text(), again, code, c.text())
	}
}

// The guarantee: mirrored hex boards have the other winners. The other player joins, with the same
// needs and bridges; and a player 2 who wins though the player 1 moves, wins also by moving first.
func TestMirroredHexBoards(t *testing.T) {
	for _, c := range manyCombs() {
		x := c.hex()
		mirror := first(impl.MirrorHex(x))
		if joiner := first(impl.JoinerOf(x)); joiner != 0 {
			other, code := impl.JoinerOf(mirror)
			wantValue(t, "JoinerOf of the mirrored "+c.text(), other, code, 3-joiner, impl.ErrNone)
		}
		for player := int64(1); player <= 2; player++ {
			need, code := impl.NeedOf(x, player)
			other, second := impl.NeedOf(mirror, 3-player)
			wantValue(t, "NeedOf of the mirrored "+c.text(), other, second, need, code)
			bridges := first(impl.HexBridges(x, player))
			for _, bridge := range bridges {
				one, other := mirrorCell(x, bridge[0]), mirrorCell(x, bridge[1])
				bridge[0], bridge[1] = min(one, other), max(one, other)
			}
			slices.SortFunc(bridges, slices.Compare)
			others, code := impl.HexBridges(mirror, 3-player)
			wantValue(t, "HexBridges of the mirrored "+c.text(), bridgesText(others), code, bridgesText(bridges), impl.ErrNone)
		}
	}
	for _, c := range combsToFill() {
		dead := first(impl.DeadCells(c.hex()))
		for k, cell := range dead {
			dead[k] = mirrorCell(c.hex(), cell)
		}
		slices.Sort(dead)
		others, code := impl.DeadCells(c.mirrored().hex())
		wantList(t, "DeadCells of the mirrored "+c.text(), others, code, dead)
	}
	for _, c := range positionsOfHex() {
		mirror := c.mirrored()
		winner := first(impl.HexWinner(c.hex()))
		if mirror.mover() == 0 || winner == 1 && c.joiner() == 0 {
			continue // who moves first may win both
		}
		other, code := impl.HexWinner(mirror.hex())
		wantValue(t, "HexWinner of the mirrored "+c.text(), other, code, 3-winner, impl.ErrNone)
	}
}

// triangleCells returns how many cells a triangle has.
func triangleCells(n int64) int {
	count := 0
	for r := range int(n) {
		count += r + 1
	}
	return count
}

// heapOfRows is a triangle as it is drawn, row by row.
type heapOfRows [][]int64

func rowsOf(cells []int64) heapOfRows {
	var rows heapOfRows
	for len(cells) > 0 {
		rows, cells = append(rows, cells[:len(rows)+1]), cells[len(rows)+1:]
	}
	return rows
}

// reduced returns the cells of the reduced triangle by counting the 2s of each three.
func (h heapOfRows) reduced() []int64 {
	var cells []int64
	for r := range h[1:] {
		for c := range h[r] {
			twos := 0
			for _, owner := range []int64{h[r][c], h[r+1][c], h[r+1][c+1]} {
				if owner == 2 {
					twos++
				}
			}
			cells = append(cells, map[bool]int64{true: 2, false: 1}[twos >= 2])
		}
	}
	return cells
}

// meeting returns the player who joins all three sides of the triangle by one group of cells. (Just
// one player does, and it is the owner.)
func (h heapOfRows) meeting() int64 {
	var seen [8][8]bool
	var visit func(r, c int, owner int64, sides *[3]bool)
	visit = func(r, c int, owner int64, sides *[3]bool) {
		if r < 0 || r >= len(h) || c < 0 || c > r || seen[r][c] || h[r][c] != owner {
			return
		}
		seen[r][c] = true
		sides[0] = sides[0] || c == 0
		sides[1] = sides[1] || c == r
		sides[2] = sides[2] || r == len(h)-1
		for _, step := range [][2]int{{0, -1}, {0, 1}, {-1, -1}, {-1, 0}, {1, 0}, {1, 1}} {
			visit(r+step[0], c+step[1], owner, sides)
		}
	}
	for r := range h {
		for c, owner := range h[r] {
			sides := [3]bool{}
			visit(r, c, owner, &sides)
			if sides == [3]bool{true, true, true} {
				return owner
			}
		}
	}
	return 0
}

// someTriangles returns lists of cells by sides: all triangles of the sides 1 to 4, and others up to
// the greatest side.
func someTriangles() map[int64][][]int64 {
	var d dice = 36
	triangles := map[int64][][]int64{}
	for n := int64(1); n <= 8; n++ {
		size := triangleCells(n)
		triangles[n] = [][]int64{repeat(1, size), repeat(2, size)}
		for k := range min(1<<size, 1024) {
			cells := repeat(1, size)
			for place := range cells {
				if n <= 4 && k>>place&1 == 1 || n > 4 && d.below(2) == 1 {
					cells[place] = 2
				}
			}
			triangles[n] = append(triangles[n], cells)
		}
	}
	return triangles
}

func TestTrianglesByHand(t *testing.T) {
	tests := []struct {
		cells, reduced string
		owner          int64
	}{
		{"1", "", 1}, {"2", "", 2},
		{"1 1 1", "1", 1}, {"1 1 2", "1", 1}, {"1 2 1", "1", 1}, {"2 1 1", "1", 1},
		{"1 2 2", "2", 2}, {"2 1 2", "2", 2}, {"2 2 1", "2", 2}, {"2 2 2", "2", 2},
		{"1 2 1 2 2 1", "1 2 1", 1},
		{"2 1 1 1 2 2", "1 1 2", 1},
		{"1 2 2 1 1 2", "2 1 2", 2},
		{"1 1 2 2 1 2", "1 1 2", 1},
		{"2 1 2 2 1 1 1 2 2 2", "2 1 1 2 2 2", 2},
		{strings.Repeat("1 ", 36), strings.Repeat("1 ", 28), 1},
		{strings.Repeat("2 ", 36), strings.Repeat("2 ", 28), 2},
	}
	for _, want := range tests {
		cells := numbers(want.cells)
		n := int64(len(rowsOf(cells)))
		owner, code := impl.TriangleOwner(n, cells)
		wantValue(t, "TriangleOwner of "+want.cells, owner, code, want.owner, impl.ErrNone)
		reduced, code := impl.ReduceTriangle(n, cells)
		if n == 1 {
			wantNoList(t, "ReduceTriangle of "+want.cells, reduced, code, impl.ErrRange)
		} else {
			wantList(t, "ReduceTriangle of "+want.cells, reduced, code, numbers(want.reduced))
		}
	}
}

func TestTriangles(t *testing.T) {
	for n, triangles := range someTriangles() {
		for _, cells := range triangles {
			owner, code := impl.TriangleOwner(n, cells)
			wantValue(t, fmt.Sprint("TriangleOwner of ", cells), owner, code, rowsOf(cells).meeting(), impl.ErrNone)
			if n == 1 {
				continue
			}
			reduced, code := impl.ReduceTriangle(n, cells)
			wantList(t, fmt.Sprint("ReduceTriangle of ", cells), reduced, code, rowsOf(cells).reduced())
			again, code := impl.TriangleOwner(n-1, reduced)
			wantValue(t, fmt.Sprint("TriangleOwner of the reduced ", cells), again, code, owner, impl.ErrNone)
		}
	}
}

// wantNoTriangle checks that the functions of triangles return an error, and zero values beside it.
func wantNoTriangle(t *testing.T, n int64, cells []int64, reducing, owning int64) {
	t.Helper()
	reduced, code := impl.ReduceTriangle(n, cells)
	wantNoList(t, fmt.Sprint("ReduceTriangle of ", n, cells), reduced, code, reducing)
	owner, code := impl.TriangleOwner(n, cells)
	wantValue(t, fmt.Sprint("TriangleOwner of ", n, cells), owner, code, 0, owning)
}

func TestTrianglesThatAreNone(t *testing.T) {
	// ErrRange for a side comes before ErrInvalid.
	for _, n := range []int64{0, 9, -1, 10, -2, -9, 256 + 2, 1 << 32, 1<<32 + 2, 6074000999, leastInt, leastInt + 1, greatestInt} {
		for _, count := range []int{0, 1, 2, 3, 36, 45, 55} {
			wantNoTriangle(t, n, repeat(1, count), impl.ErrRange, impl.ErrRange)
			wantNoTriangle(t, n, repeat(0, count), impl.ErrRange, impl.ErrRange)
		}
	}
	for n := int64(1); n <= 8; n++ {
		size := triangleCells(n)
		reducing := int64(impl.ErrInvalid)
		if n == 1 {
			reducing = impl.ErrRange
		}
		for _, count := range []int{0, size - 1, size + 1, size - int(n), size + int(n) + 1, 2 * size, int(n * n), 100} {
			if count != size {
				wantNoTriangle(t, n, repeat(1, count), reducing, impl.ErrInvalid)
				wantNoTriangle(t, n, repeat(3, count), reducing, impl.ErrInvalid)
			}
		}
		for _, owner := range []int64{0, 3, -1, -2, 4, 256 + 1, 1<<32 + 1, leastInt, leastInt + 1, greatestInt} {
			for _, place := range []int{0, size / 2, size - 1} {
				cells := repeat(1, size)
				cells[place] = owner
				wantNoTriangle(t, n, cells, reducing, impl.ErrInvalid)
			}
		}
	}
}

func TestHexArgumentsStayAsTheyAre(t *testing.T) {
	for _, text := range []string{".", "1", "12./.1./2..", "1../.1./..1", "2..1/1122/2211/..12", "1212/2..1/1..2/1212"} {
		cells, whole := roomy(combOf(text).hex().Cells)
		before := slices.Clone(whole)
		x := impl.Hex{Side: int64(len(combOf(text))), Cells: cells}
		impl.IsHex(x)
		impl.JoinerOf(x)
		impl.HexMover(x)
		impl.HexWinner(x)
		spoil(first(impl.HexMoves(x)))
		spoil(first(impl.DeadCells(x)))
		spoil(first(impl.MirrorHex(x)).Cells)
		for player := int64(1); player <= 2; player++ {
			impl.NeedOf(x, player)
			for _, bridge := range first(impl.HexBridges(x, player)) {
				spoil(bridge)
			}
		}
		if !slices.Equal(whole, before) {
			t.Errorf("%s has become %v", text, whole)
		}
	}
	for n, triangles := range someTriangles() {
		cells, whole := roomy(triangles[2])
		before := slices.Clone(whole)
		impl.TriangleOwner(n, cells)
		spoil(first(impl.ReduceTriangle(n, cells)))
		if !slices.Equal(whole, before) {
			t.Errorf("the triangle %v has become %v", triangles[2], whole)
		}
	}
}

func TestBridgesShareNoMemory(t *testing.T) {
	x := combOf("...1./.1..1/..1../1..1./.1...").hex()
	wantApart(t, "HexBridges", 12, func() [][]int64 { return first(impl.HexBridges(x, 1)) })
}

// The same call has the same result, whatever calls and changes of results came before it.
func TestHexKeepsNoState(t *testing.T) {
	x := combOf("1.2/.../.12").hex()
	near, moves, dead := fmt.Sprint(impl.HexNeighbours(3, 4)), fmt.Sprint(impl.HexMoves(x)), fmt.Sprint(impl.DeadCells(x))
	spoil(first(impl.HexNeighbours(3, 4)))
	spoil(first(impl.HexMoves(x)))
	spoil(first(impl.DeadCells(x)))
	impl.HexWinner(combOf(".../1.2/...").hex())
	if fmt.Sprint(impl.HexNeighbours(3, 4)) != near || fmt.Sprint(impl.HexMoves(x)) != moves || fmt.Sprint(impl.DeadCells(x)) != dead {
		t.Error("results have changed")
	}
}
