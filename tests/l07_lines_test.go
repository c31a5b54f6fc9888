package tests

import (
	"fmt"
	"regexp"
	"runtime"
	"slices"
	"strconv"
	"strings"
	"testing"
	"time"

	"loop.example/g01388/impl"
)

// slate is a board as its text tells it: how many nodes it has, and each line as a list of nodes. It
// is a second way to what the numbers tell.
type slate struct {
	nodes int
	lines [][]int
}

// slateOf returns the slate of a text.
func slateOf(text string) slate {
	nodes, lines, _ := strings.Cut(text, ":")
	n, _ := strconv.Atoi(nodes)
	s := slate{nodes: n}
	for _, line := range strings.FieldsFunc(lines, func(sign rune) bool { return sign == ',' }) {
		var list []int
		for _, word := range strings.Split(line, ".") {
			node, _ := strconv.Atoi(word)
			list = append(list, node)
		}
		s.lines = append(s.lines, list)
	}
	return s
}

func (s slate) text() string {
	var lines []string
	for _, line := range s.lines {
		lines = append(lines, strings.ReplaceAll(strings.Trim(fmt.Sprint(line), "[]"), " ", "."))
	}
	return strconv.Itoa(s.nodes) + ":" + strings.Join(lines, ",")
}

// numberOf returns the number of a set of nodes.
func numberOf(nodes []int) int64 {
	sum := int64(0)
	for _, node := range nodes {
		power := int64(1)
		for range node {
			power *= 2
		}
		sum += power
	}
	return sum
}

// board returns the board of the slate.
func (s slate) board() impl.Board {
	b := impl.Board{Nodes: int64(s.nodes)}
	for _, line := range s.lines {
		b.Lines = append(b.Lines, numberOf(line))
	}
	return b
}

// listed returns the nodes of a set that is told as a number.
func listed(set int64) []int {
	var nodes []int
	for node := 0; set > 0; node++ {
		if set%2 == 1 {
			nodes = append(nodes, node)
		}
		set /= 2
	}
	return nodes
}

// slateWith returns the slate of so many nodes with lines told as numbers, in any order, and equal
// ones once.
func slateWith(nodes int, lines []int64) slate {
	s := slate{nodes: nodes}
	lines = slices.Clone(lines)
	slices.Sort(lines)
	for _, line := range slices.Compact(lines) {
		s.lines = append(s.lines, listed(line))
	}
	return s
}

// smallSlates returns all slates of 1 to 3 nodes.
func smallSlates() []slate {
	var slates []slate
	for nodes := 1; nodes <= 3; nodes++ {
		all := upTo(1, 1<<nodes-1)
		for chosen := range 1 << len(all) {
			var lines []int64
			for k, line := range all {
				if chosen>>k&1 == 1 {
					lines = append(lines, line)
				}
			}
			slates = append(slates, slateWith(nodes, lines))
		}
	}
	return slates
}

// drawnSlates returns slates of least to most nodes with up to so many lines, each slate with lines
// of about the same number of nodes.
func drawnSlates(seed dice, count, least, most, lines int) []slate {
	d := &seed
	var slates []slate
	for range count {
		nodes := least + int(d.below(int64(most-least+1)))
		size := 1 + int(d.below(int64(min(nodes, 7))))
		var drawn []int64
		for range d.below(int64(lines + 1)) {
			var line []int
			for len(line) < min(nodes, size+int(d.below(2))) {
				if node := int(d.below(int64(nodes))); !slices.Contains(line, node) {
					line = append(line, node)
				}
			}
			drawn = append(drawn, numberOf(line))
		}
		slates = append(slates, slateWith(nodes, drawn))
	}
	return slates
}

// fullSlates returns slates with exactly 100 lines: the 100 least ones, the 100 greatest ones, and
// some between.
func fullSlates() []slate {
	var slates []slate
	for nodes := 7; nodes <= 16; nodes++ {
		for _, start := range []int64{1, 1<<nodes - 100, 1<<(nodes-1) - 50} {
			slates = append(slates, slateWith(nodes, upTo(max(start, 1), max(start, 1)+99)))
		}
	}
	return slates
}

// plainSlates returns, for each number of nodes, slates without lines, with each node a line, with
// all nodes as the only line, and with lines of two nodes each.
func plainSlates() []slate {
	var slates []slate
	for nodes := 1; nodes <= 16; nodes++ {
		all := slate{nodes: nodes}
		single, row := all, all
		for node := range nodes {
			single.lines = append(single.lines, []int{node})
			if node > 0 {
				row.lines = append(row.lines, []int{node - 1, node})
			}
		}
		slates = append(slates, all, single, row, slateWith(nodes, []int64{1<<nodes - 1}))
	}
	return slates
}

// manySlates returns slates of all sizes.
func manySlates() []slate {
	return slices.Concat(smallSlates(), plainSlates(), fullSlates(), drawnSlates(7, 300, 1, 16, 12), drawnSlates(77, 60, 4, 16, 100))
}

// slatesToSolve returns slates of at most 9 nodes.
func slatesToSolve() []slate {
	slates := slices.Concat(smallSlates(), plainSlates(), fullSlates(), drawnSlates(17, 300, 3, 6, 9), drawnSlates(27, 60, 6, 8, 12), drawnSlates(37, 30, 9, 9, 16))
	return slices.DeleteFunc(slates, func(s slate) bool { return s.nodes > 9 })
}

// toe is the grid of three in a row.
const toe = "9:0.1.2,3.4.5,0.3.6,2.4.6,1.4.7,0.4.8,2.5.8,6.7.8"

// board returns the board of a text.
func board(text string) impl.Board { return slateOf(text).board() }

// wantBoard checks a board, by its text, and the code beside it.
func wantBoard(t *testing.T, what string, got impl.Board, code int64, want string) {
	t.Helper()
	b := board(want)
	if code != impl.ErrNone || got.Nodes != b.Nodes || !slices.Equal(got.Lines, b.Lines) {
		t.Errorf("%s = %v, code %d; want %s, %v", what, got, code, want, b)
	}
}

// wantNoBoard checks that a board is the zero value beside the code of an error.
func wantNoBoard(t *testing.T, what string, got impl.Board, code, want int64) {
	t.Helper()
	if code != want || got.Nodes != 0 || len(got.Lines) != 0 {
		t.Errorf("%s = %v, code %d; want nothing and code %d", what, got, code, want)
	}
}

// badBoards returns some of each kind of what is not a board.
func badBoards() map[string]impl.Board {
	bad := map[string]impl.Board{"zero value": {}}
	for _, n := range []int64{0, 17, -1, 18, -16, 62, 63, 64, 65, 256 + 3, 1<<32 + 3, leastInt, leastInt + 3, greatestInt} {
		bad[fmt.Sprint(n, " nodes")] = impl.Board{Nodes: n}
		bad[fmt.Sprint(n, " nodes and a line")] = impl.Board{Nodes: n, Lines: []int64{1}}
		bad[fmt.Sprint(n, " nodes and lines")] = impl.Board{Nodes: n, Lines: []int64{1, 2, 3}}
	}
	for n := int64(1); n <= 16; n++ {
		for _, line := range []int64{0, -1, -2, 1 << n, 1<<n + 1, 1<<(n+1) - 1, 1 << 16, 1 << 32, 1<<32 + 1, 1 << 62, leastInt, leastInt + 1, greatestInt} {
			bad[fmt.Sprintf("%d nodes and the line %d", n, line)] = impl.Board{Nodes: n, Lines: []int64{line}}
			bad[fmt.Sprintf("%d nodes and the line %d behind another one", n, line)] = impl.Board{Nodes: n, Lines: []int64{1, line}}
			bad[fmt.Sprintf("%d nodes and the line %d before another one", n, line)] = impl.Board{Nodes: n, Lines: []int64{line, 1}}
		}
		bad[fmt.Sprintf("%d nodes and equal lines", n)] = impl.Board{Nodes: n, Lines: []int64{1, 1}}
		if n > 1 {
			last := int64(1)<<n - 1
			bad[fmt.Sprintf("%d nodes and lines that descend", n)] = impl.Board{Nodes: n, Lines: []int64{last, last - 1}}
			bad[fmt.Sprintf("%d nodes and lines that descend at the end", n)] = impl.Board{Nodes: n, Lines: []int64{1, last, last - 1}}
			bad[fmt.Sprintf("%d nodes and equal lines at the end", n)] = impl.Board{Nodes: n, Lines: []int64{1, last, last}}
		}
		if n >= 7 {
			bad[fmt.Sprintf("%d nodes and 101 lines", n)] = impl.Board{Nodes: n, Lines: upTo(1, 101)}
			bad[fmt.Sprintf("%d nodes and 127 lines", n)] = impl.Board{Nodes: n, Lines: upTo(1, 127)}
			bad[fmt.Sprintf("%d nodes and 101 equal lines", n)] = impl.Board{Nodes: n, Lines: repeat(1, 101)}
		}
	}
	bad["16 nodes and all lines"] = impl.Board{Nodes: 16, Lines: upTo(1, 65535)}
	return bad
}

func TestBoardConstants(t *testing.T) {
	if impl.MaxOnBoard != 16 || impl.MaxSolve != 9 {
		t.Errorf("MaxOnBoard, MaxSolve are %d, %d", impl.MaxOnBoard, impl.MaxSolve)
	}
}

func TestIsBoard(t *testing.T) {
	for _, s := range manySlates() {
		if !impl.IsBoard(s.board()) {
			t.Errorf("%s is a board", s.text())
		}
	}
	for name, b := range badBoards() {
		if impl.IsBoard(b) {
			t.Errorf("%s: %v is no board", name, b)
		}
	}
	if b := (impl.Board{Nodes: 16, Lines: []int64{}}); !impl.IsBoard(b) {
		t.Error("an empty list is as good as none")
	}
}

// wantNoSets checks that the functions of two sets that are looked at in a race return an error, and
// zero values beside it.
func wantNoSets(t *testing.T, b impl.Board, first, second, want int64) {
	t.Helper()
	what := fmt.Sprint(b, first, second)
	result, code := impl.RaceResult(b, first, second)
	wantValue(t, "RaceResult of "+what, result, code, 0, want)
	best, code := impl.BestNodes(b, first, second)
	wantNoList(t, "BestNodes of "+what, best, code, want)
}

// wantNoFilledLine checks that there is none, and why.
func wantNoFilledLine(t *testing.T, b impl.Board, first, second, want int64) {
	t.Helper()
	player, line, code := impl.FilledLine(b, first, second)
	what := fmt.Sprint("FilledLine of ", b, first, second)
	wantValue(t, what, player, code, 0, want)
	wantValue(t, what, line, code, 0, want)
}

// wantIsState checks what IsState returns.
func wantIsState(t *testing.T, b impl.Board, first, second int64, want bool, wantCode int64) {
	t.Helper()
	yes, code := impl.IsState(b, first, second)
	wantValue(t, fmt.Sprint("IsState of ", b, first, second), yes, code, want, wantCode)
}

// wantNoSolution checks that the functions that look at all plays return an error, and zero values
// beside it.
func wantNoSolution(t *testing.T, what string, b impl.Board, want int64) {
	t.Helper()
	wins, code := impl.MakerWins(b)
	wantValue(t, what+": MakerWins", wins, code, false, want)
	play, code := impl.PlayRace(b)
	wantNoList(t, what+": PlayRace", play, code, want)
}

// ErrInvalid comes before all other errors, whatever is beside the board.
func TestBoardInvalidComesFirst(t *testing.T) {
	for name, bad := range badBoards() {
		for _, p := range []int64{0, 1, -1, 16, 17, leastInt, greatestInt} {
			lines, code := impl.LinesThrough(bad, p)
			wantNoList(t, name+": LinesThrough", lines, code, impl.ErrInvalid)
		}
		weight, code := impl.WeightOf(bad)
		wantValue(t, name+": WeightOf", weight, code, 0, impl.ErrInvalid)
		set, code := impl.LeastMeeting(bad)
		wantValue(t, name+": LeastMeeting", set, code, 0, impl.ErrInvalid)
		pairs, code := impl.FindPairing(bad)
		wantNoList(t, name+": FindPairing", pairs, code, impl.ErrInvalid)
		text, code := impl.BoardText(bad)
		wantValue(t, name+": BoardText", text, code, "", impl.ErrInvalid)
		wantNoSolution(t, name, bad, impl.ErrInvalid)
		for _, sets := range [][2]int64{{0, 0}, {1, 0}, {1, 2}, {1, 1}, {0, 1}, {3, 0}, {-1, 0}, {0, -1}, {1 << 16, 0}, {leastInt, greatestInt}} {
			wantIsState(t, bad, sets[0], sets[1], false, impl.ErrInvalid)
			wantNoFilledLine(t, bad, sets[0], sets[1], impl.ErrInvalid)
			wantNoSets(t, bad, sets[0], sets[1], impl.ErrInvalid)
		}
	}
}

func TestGridBoardByHand(t *testing.T) {
	tests := map[[3]int64]string{
		{1, 1, 1}: "1:0", {1, 1, 2}: "1:", {1, 1, 8}: "1:",
		{2, 1, 1}: "2:0,1", {2, 1, 2}: "2:0.1", {1, 2, 2}: "2:0.1", {2, 1, 3}: "2:",
		// One line in each direction, both slanting ones, too.
		{2, 2, 2}: "4:0.1,0.2,1.2,0.3,1.3,2.3", {2, 2, 1}: "4:0,1,2,3", {2, 2, 3}: "4:",
		{3, 2, 2}: "6:0.1,1.2,0.3,1.3,0.4,1.4,2.4,3.4,1.5,2.5,4.5",
		{2, 3, 2}: "6:0.1,0.2,1.2,0.3,1.3,2.3,2.4,3.4,2.5,3.5,4.5",
		// k is greater than the height, than the width, and than both.
		{3, 2, 3}: "6:0.1.2,3.4.5", {2, 3, 3}: "6:0.2.4,1.3.5", {3, 2, 4}: "6:", {2, 3, 4}: "6:", {3, 3, 4}: "9:", {4, 4, 8}: "16:", {8, 1, 8}: "8:0.1.2.3.4.5.6.7", {8, 1, 7}: "8:0.1.2.3.4.5.6,1.2.3.4.5.6.7",
		{3, 3, 3}: toe,
		{4, 3, 3}: "12:0.1.2,1.2.3,4.5.6,5.6.7,0.4.8,2.5.8,1.5.9,3.6.9,0.5.10,2.6.10,8.9.10,1.6.11,3.7.11,9.10.11",
		// Exactly MaxOnBoard nodes.
		{4, 4, 4}: "16:0.1.2.3,4.5.6.7,8.9.10.11,0.4.8.12,3.6.9.12,1.5.9.13,2.6.10.14,0.5.10.15,3.7.11.15,12.13.14.15",
		{8, 2, 8}: "16:0.1.2.3.4.5.6.7,8.9.10.11.12.13.14.15",
		{2, 8, 8}: "16:0.2.4.6.8.10.12.14,1.3.5.7.9.11.13.15",
		{8, 2, 7}: "16:0.1.2.3.4.5.6,1.2.3.4.5.6.7,8.9.10.11.12.13.14,9.10.11.12.13.14.15",
		{4, 4, 1}: "16:0,1,2,3,4,5,6,7,8,9,10,11,12,13,14,15",
	}
	for size, want := range tests {
		b, code := impl.GridBoard(size[0], size[1], size[2])
		wantBoard(t, fmt.Sprint("GridBoard of ", size), b, code, want)
	}
}

// isRowOn reports whether nodes of a grid, ascending, stand one behind the other in one of the four
// directions.
func isRowOn(wide int, nodes []int) bool {
	directions := map[[2]int]bool{{1, 0}: true, {0, 1}: true, {1, 1}: true, {-1, 1}: true}
	for k, node := range nodes {
		if k == 0 {
			continue
		}
		before := nodes[k-1]
		step := [2]int{node%wide - before%wide, node/wide - before/wide}
		if k == 1 && !directions[step] || k > 1 && step != [2]int{before%wide - nodes[k-2]%wide, before/wide - nodes[k-2]/wide} {
			return false
		}
	}
	return true
}

// The lines of a grid are, of all sets of nodes, those that are rows.
func TestGridBoard(t *testing.T) {
	most := 0
	for wide := 1; wide <= 8; wide++ {
		for high := 1; high <= 8 && wide*high <= 16; high++ {
			rows := map[int][]int64{}
			for set := int64(1); set < 1<<(wide*high); set++ {
				if nodes := listed(set); len(nodes) <= 8 && isRowOn(wide, nodes) {
					rows[len(nodes)] = append(rows[len(nodes)], set)
				}
			}
			for k := 1; k <= 8; k++ {
				b, code := impl.GridBoard(int64(wide), int64(high), int64(k))
				wantBoard(t, fmt.Sprint("GridBoard of ", wide, high, k), b, code, slateWith(wide*high, rows[k]).text())
				if !impl.IsBoard(b) {
					t.Errorf("GridBoard of %d, %d, %d is no board", wide, high, k)
				}
				most = max(most, len(b.Lines))
			}
		}
	}
	// So the error ErrLimit does not come to pass.
	if most != 42 {
		t.Errorf("the greatest number of lines is %d", most)
	}
}

func TestGridBoardOutOfRange(t *testing.T) {
	strange := []int64{0, 9, -1, 10, -8, 16, 17, 256 + 1, 1 << 31, 1 << 32, 1<<32 + 1, 1 << 62, leastInt, leastInt + 1, greatestInt}
	for _, number := range strange {
		for usual := int64(1); usual <= 8; usual++ {
			for _, size := range [][3]int64{{number, usual, 1}, {usual, number, 1}, {usual, 1, number}, {1, usual, number}, {number, 1, usual}, {1, number, usual}, {number, number, usual}, {number, number, number}} {
				b, code := impl.GridBoard(size[0], size[1], size[2])
				wantNoBoard(t, fmt.Sprint("GridBoard of ", size), b, code, impl.ErrRange)
			}
		}
	}
	// More than MaxOnBoard nodes; of the grids of more than 100 lines none has less.
	for wide := int64(1); wide <= 8; wide++ {
		for high := int64(1); high <= 8; high++ {
			for k := int64(1); k <= 8 && wide*high > 16; k++ {
				b, code := impl.GridBoard(wide, high, k)
				wantNoBoard(t, fmt.Sprint("GridBoard of ", wide, high, k), b, code, impl.ErrRange)
			}
		}
	}
}

// All goroutines of calls have ended behind them.
func TestGridBoardLeavesNothingRunning(t *testing.T) {
	before := runtime.NumGoroutine()
	for range 1000 {
		impl.GridBoard(4, 4, 2)
		impl.GridBoard(5, 4, 2)
	}
	for range 100 {
		if runtime.NumGoroutine() <= before {
			return
		}
		time.Sleep(10 * time.Millisecond)
	}
	t.Errorf("%d goroutines are running, not %d", runtime.NumGoroutine(), before)
}

func TestLinesThrough(t *testing.T) {
	tests := []struct {
		text string
		node int64
		want string
	}{
		{toe, 4, "3.4.5,2.4.6,1.4.7,0.4.8"}, {toe, 0, "0.1.2,0.3.6,0.4.8"}, {toe, 1, "0.1.2,1.4.7"}, {toe, 8, "0.4.8,2.5.8,6.7.8"},
		// Nodes on no line.
		{"1:", 0, ""}, {"4:0.1,1.3", 2, ""}, {"16:0.1", 15, ""},
		{"1:0", 0, "0"}, {"16:1.2,15,0.15", 15, "15,0.15"}, {"3:0,1,0.1,2,0.2,1.2,0.1.2", 1, "1,0.1,1.2,0.1.2"},
	}
	for _, c := range tests {
		lines, code := impl.LinesThrough(board(c.text), c.node)
		wantList(t, fmt.Sprint("LinesThrough of ", c.text, c.node), lines, code, board("16:"+c.want).Lines)
	}
	for _, s := range manySlates() {
		for node := range s.nodes {
			through := slate{nodes: s.nodes}
			for _, line := range s.lines {
				if slices.Contains(line, node) {
					through.lines = append(through.lines, line)
				}
			}
			lines, code := impl.LinesThrough(s.board(), int64(node))
			wantList(t, fmt.Sprint("LinesThrough of ", s.text(), node), lines, code, through.board().Lines)
		}
		n := int64(s.nodes)
		for _, p := range []int64{-1, n, n + 1, -2, 63, 64, 256, 1 << 32, leastInt, leastInt + 1, greatestInt} {
			lines, code := impl.LinesThrough(s.board(), p)
			wantNoList(t, fmt.Sprint("LinesThrough of ", s.text(), p), lines, code, impl.ErrRange)
		}
	}
}

// colourings returns how many sets of nodes have all nodes of a line, which is its weight.
func (s slate) colourings(line []int) int64 {
	count := int64(1)
	for node := range s.nodes {
		if !slices.Contains(line, node) {
			count *= 2
		}
	}
	return count
}

// weight returns the weight.
func (s slate) weight() int64 {
	sum := int64(0)
	for _, line := range s.lines {
		sum += s.colourings(line)
	}
	return sum
}

func TestWeightOf(t *testing.T) {
	tests := map[string]int64{
		"1:": 0, "16:": 0, "1:0": 1, "2:0": 2, "2:0.1": 1, "2:0,1,0.1": 5, "3:1": 4, "3:0.1.2": 1, "16:3": 32768, "16:0.1.2.3.4.5.6.7.8.9.10.11.12.13.14.15": 1,
		toe: 512, "4:0.1,1.2,2.3": 12, "4:0.1,2.3": 8,
		// Just below 2^(n - 1), and at it.
		"3:0.1,0.1.2": 3, "3:0.1,0.2": 4, "5:0.1,0.1.2,0.1.2.3,0.1.2.3.4": 15, "5:0.1,0.1.2,0.1.3": 16, "2:1": 2,
	}
	for text, want := range tests {
		weight, code := impl.WeightOf(board(text))
		wantValue(t, "WeightOf of "+text, weight, code, want, impl.ErrNone)
	}
	for _, s := range manySlates() {
		weight, code := impl.WeightOf(s.board())
		wantValue(t, "WeightOf of "+s.text(), weight, code, s.weight(), impl.ErrNone)
	}
}

// meets reports whether a list of nodes meets all lines.
func (s slate) meets(nodes []int) bool {
	for _, line := range s.lines {
		if !slices.ContainsFunc(line, func(node int) bool { return slices.Contains(nodes, node) }) {
			return false
		}
	}
	return true
}

// setsBySize returns all sets of so many nodes, by how many of them they have, ascending.
func setsBySize(nodes int) [][][]int {
	sets := make([][][]int, nodes+1)
	for set := range int64(1) << nodes {
		list := listed(set)
		sets[len(list)] = append(sets[len(list)], list)
	}
	return sets
}

func TestLeastMeeting(t *testing.T) {
	tests := map[string]string{
		// No line is met by the empty set.
		"1:": "", "4:": "", "16:": "",
		"1:0": "0", "3:0,1,2": "0.1.2", "3:0,2": "0.2", "3:0.1.2": "0", "3:1.2": "1", "16:15": "15", "16:0,1,2,3,4,5,6,7,8,9,10,11,12,13,14,15": "0.1.2.3.4.5.6.7.8.9.10.11.12.13.14.15",
		// The least one of several sets with the fewest nodes.
		"4:0.1,1.2,2.3": "0.2", "4:0.1,2.3": "0.2", "4:0.1,0.2,1.2": "0.1", toe: "2.4.6",
		// Sets with fewer nodes come before lesser ones.
		"4:0.3,1.3,2.3": "3", "5:1.2.3,0.1.4,0.2.4": "0.1", "16:0.15,1.15,2.15,3.15": "15", "6:0.4,1.4,2.5,3.5": "4.5",
	}
	for text, want := range tests {
		set, code := impl.LeastMeeting(board(text))
		wantValue(t, "LeastMeeting of "+text, set, code, numberOf(slices.Concat(slateOf("16:"+want).lines...)), impl.ErrNone)
	}
	sets := map[int][][][]int{}
	for nodes := 1; nodes <= 16; nodes++ {
		sets[nodes] = setsBySize(nodes)
	}
	for _, s := range manySlates() {
		var want []int
		for _, ofSize := range sets[s.nodes] {
			if k := slices.IndexFunc(ofSize, s.meets); k >= 0 {
				want = ofSize[k]
				break
			}
		}
		set, code := impl.LeastMeeting(s.board())
		wantValue(t, "LeastMeeting of "+s.text(), set, code, numberOf(want), impl.ErrNone)
	}
}

// hasPair reports whether a line has both nodes of one of some pairs.
func hasPair(line []int, pairs [][]int64) bool {
	return slices.ContainsFunc(pairs, func(pair []int64) bool {
		return slices.Contains(line, int(pair[0])) && slices.Contains(line, int(pair[1]))
	})
}

// pairing returns the pairs behind which all lines from the number k on are treated, just as the
// document tells it: line by line, always with the first pair that does not fail later.
func (s slate) pairing(k int, pairs [][]int64) ([][]int64, bool) {
	for k < len(s.lines) && hasPair(s.lines[k], pairs) {
		k++
	}
	if k == len(s.lines) {
		return pairs, true
	}
	taken := slices.Concat(pairs...)
	for i, one := range s.lines[k] {
		for _, other := range s.lines[k][i+1:] {
			if slices.Contains(taken, int64(one)) || slices.Contains(taken, int64(other)) {
				continue
			}
			if all, ok := s.pairing(k+1, append(slices.Clip(pairs), []int64{int64(one), int64(other)})); ok {
				return all, true
			}
		}
	}
	return nil, false
}

// wantPairing checks a pairing, by its text, and the code beside it.
func wantPairing(t *testing.T, text string, want string) {
	t.Helper()
	pairs, code := impl.FindPairing(board(text))
	if code != impl.ErrNone || fmt.Sprint(pairs) != want {
		t.Errorf("FindPairing of %s = %v, code %d; want %s", text, pairs, code, want)
	}
}

func TestFindPairingByHand(t *testing.T) {
	tests := map[string]string{
		// No lines need no pairs.
		"1:": "[]", "16:": "[]",
		"2:0.1": "[[0 1]]", "4:0.1,2.3": "[[0 1] [2 3]]", "4:0.2,1.3": "[[0 2] [1 3]]", "3:0.1.2": "[[0 1]]", "4:1.2.3": "[[1 2]]",
		// Lines that have both nodes of a pair already.
		"3:0.1,0.1.2": "[[0 1]]", "4:0.1,0.1.2,0.1.3": "[[0 1]]", "6:0.1,2.3,0.1.4,2.3.5,0.1.2.3.4.5": "[[0 1] [2 3]]",
		// Nodes of other pairs are left out.
		"4:0.1.2,1.2.3": "[[0 1] [2 3]]", "6:0.1.2,2.3.4,0.4.5": "[[0 1] [2 3] [4 5]]",
		// A pair is given up for a line behind it, and the list keeps the order of the lines.
		"4:0.1.2,0.3": "[[1 2] [0 3]]", "4:0.1.2,1.3": "[[0 2] [1 3]]", "4:0.1.2,2.3": "[[0 1] [2 3]]", "6:0.1.2.3,0.4,1.5": "[[2 3] [0 4] [1 5]]",
		// The line that needs it comes much later, or needs another one to be treated before it.
		"8:0.1.2,3.4,0.7": "[[1 2] [3 4] [0 7]]", "8:0.1.2,3.4.5,2.3.6,0.5.7": "[[0 1] [3 4] [2 6] [5 7]]", "7:0.1.2.3,0.4.5,1.4.5,1.6": "[[0 2] [4 5] [1 6]]",
		// All nodes.
		"16:0.1,2.3,4.5,6.7,8.9,10.11,12.13,14.15": "[[0 1] [2 3] [4 5] [6 7] [8 9] [10 11] [12 13] [14 15]]",
		"16:0.8,1.9,2.10,3.11,4.12,5.13,6.14,7.15": "[[0 8] [1 9] [2 10] [3 11] [4 12] [5 13] [6 14] [7 15]]",
		"16:0.1.2.3.4.5.6.7.8.9.10.11.12.13.14.15": "[[0 1]]",
		"16:14.15": "[[14 15]]",
	}
	for text, want := range tests {
		wantPairing(t, text, want)
	}
	for _, text := range []string{
		// A line of one node, two lines for the same node, and three for two pairs.
		"1:0", "2:1", "16:15", "5:0.1,2.3,4", "5:0.1,2,3.4", "3:0.1,0.2", "3:0.1,0.2,1.2", "4:0.1,1.2,2.3", "4:0.1.2,0.3,1.3",
		// More lines than pairs, as no two of them have more than one node in common.
		toe, "7:0.1.2,0.3.4,1.3.5,2.4.5,2.3.6,1.4.6,0.5.6", "16:0.1.2.3,4.5.6.7,8.9.10.11,0.4.8.12,3.6.9.12,1.5.9.13,2.6.10.14,0.5.10.15,3.7.11.15,12.13.14.15",
	} {
		pairs, code := impl.FindPairing(board(text))
		wantNoList(t, "FindPairing of "+text, pairs, code, impl.ErrNotFound)
	}
}

func TestFindPairing(t *testing.T) {
	found := map[bool]int{}
	for _, s := range slices.Concat(manySlates(), drawnSlates(47, 300, 4, 16, 16)) {
		pairs, code := impl.FindPairing(s.board())
		want, ok := s.pairing(0, nil)
		found[ok]++
		if !ok {
			wantNoList(t, "FindPairing of "+s.text(), pairs, code, impl.ErrNotFound)
		} else if code != impl.ErrNone || fmt.Sprint(pairs) != fmt.Sprint(want) {
			t.Errorf("FindPairing of %s = %v, code %d; want %v", s.text(), pairs, code, want)
		}
	}
	if found[true] < 100 || found[false] < 100 {
		t.Errorf("there are pairings, or none: %v", found)
	}
}

// What is asked of a pairing holds for the one that is found, whichever that is.
func TestPairingsAreSuch(t *testing.T) {
	for _, s := range manySlates() {
		pairs, code := impl.FindPairing(s.board())
		nodes := slices.Sorted(slices.Values(slices.Concat(pairs...)))
		if len(slices.Compact(slices.Clone(nodes))) != len(nodes) {
			t.Errorf("FindPairing of %s = %v: a node is in two pairs", s.text(), pairs)
		}
		for _, pair := range pairs {
			if len(pair) != 2 || pair[0] >= pair[1] {
				t.Fatalf("FindPairing of %s has the pair %v", s.text(), pair)
			}
		}
		for _, line := range s.lines {
			if code == impl.ErrNone && !hasPair(line, pairs) {
				t.Errorf("FindPairing of %s = %v: the line %v has no pair", s.text(), pairs, line)
			}
		}
	}
}

// A pairing is looked for in a short time also where many lines can be treated in many ways before
// some others, behind them, cannot.
func TestFindPairingEndsSoon(t *testing.T) {
	start := time.Now()
	var d dice = 57
	for range 20 {
		var lines []int64
		for range 97 {
			var line []int
			for len(line) < 5 {
				if node := int(d.below(13)); !slices.Contains(line, node) {
					line = append(line, node)
				}
			}
			lines = append(lines, numberOf(line))
		}
		s := slateWith(16, append(lines, numberOf([]int{13, 14}), numberOf([]int{13, 15}), numberOf([]int{14, 15})))
		pairs, code := impl.FindPairing(s.board())
		wantNoList(t, "FindPairing of "+s.text(), pairs, code, impl.ErrNotFound)
	}
	if spent := time.Since(start); spent > 20*time.Second {
		t.Errorf("it took %v", spent)
	}
}

// play is a slate with the owner of each node: the player 'a', who began, the other one, 'b', or
// '.' for none.
type play struct {
	slate
	signs string
}

// onNodes returns the play that stands at two sets.
func (s slate) onNodes(first, second int64) play {
	signs := []byte(strings.Repeat(".", s.nodes))
	for _, node := range listed(first) {
		signs[node] = 'a'
	}
	for _, node := range listed(second) {
		signs[node] = 'b'
	}
	return play{s, string(signs)}
}

// numbers returns both sets as numbers.
func (p play) numbers() (int64, int64) {
	var sets [2][]int
	for node, sign := range p.signs {
		if sign != '.' {
			sets[sign-'a'] = append(sets[sign-'a'], node)
		}
	}
	return numberOf(sets[0]), numberOf(sets[1])
}

// mover returns the player whose turn it is, 0 if the sets are no state.
func (p play) mover() byte {
	switch strings.Count(p.signs, "a") - strings.Count(p.signs, "b") {
	case 0:
		return 'a'
	case 1:
		return 'b'
	}
	return 0
}

// lineOf returns the first line that a player has, nil if there is none.
func (p play) lineOf(player byte) []int {
	for _, line := range p.lines {
		if !slices.ContainsFunc(line, func(node int) bool { return p.signs[node] != player }) {
			return line
		}
	}
	return nil
}

// filled returns the first line of a player, and who it is; 0 if no one has a line.
func (p play) filled() (byte, []int) {
	for _, player := range []byte("ab") {
		if line := p.lineOf(player); line != nil {
			return player, line
		}
	}
	return 0, nil
}

// free returns the nodes that nobody has.
func (p play) free() []int {
	var nodes []int
	for node, sign := range p.signs {
		if sign == '.' {
			nodes = append(nodes, node)
		}
	}
	return nodes
}

func (p play) isRunning() bool {
	player, _ := p.filled()
	return p.mover() != 0 && player == 0 && len(p.free()) > 0
}

// behind returns the play behind the taking of a node by its mover.
func (p play) behind(node int) play {
	signs := []byte(p.signs)
	signs[node] = p.mover()
	return play{p.slate, string(signs)}
}

// plays returns all ways to give nodes to both players, or to none.
func (s slate) plays() []play {
	var all []play
	for _, text := range smallTexts(s.nodes, 1, ".ab") {
		all = append(all, play{s, text})
	}
	return all
}

// outcomes are known by the signs of plays on one slate.
type outcomes map[string]int

// race returns 1 if the mover wins the race, -1 if the other player does, and 0 if nobody does.
func (known outcomes) race(p play) int {
	if outcome, ok := known[p.signs]; ok {
		return outcome
	}
	outcome := -1
	if player, _ := p.filled(); player == p.mover() {
		outcome = 1
	} else if player == 0 && len(p.free()) == 0 {
		outcome = 0
	} else if player == 0 {
		for _, node := range p.free() {
			outcome = max(outcome, -known.race(p.behind(node)))
		}
	}
	known[p.signs] = outcome
	return outcome
}

// best returns the nodes behind whose taking the outcome of the race stays.
func (known outcomes) best(p play) []int64 {
	var nodes []int64
	for _, node := range p.free() {
		if -known.race(p.behind(node)) == known.race(p) {
			nodes = append(nodes, int64(node))
		}
	}
	return nodes
}

// making returns 1 if the maker, the player 'a', gets a line, and 0 otherwise.
func (known outcomes) making(p play) int {
	if outcome, ok := known[p.signs]; ok {
		return outcome
	}
	outcome := 0
	if p.mover() == 'b' {
		outcome = 1
	}
	for _, node := range p.free() {
		if behind := known.making(p.behind(node)); behind == 1 && p.mover() == 'a' || behind == 0 && p.mover() == 'b' {
			outcome = behind
		}
	}
	if len(p.free()) == 0 || p.lineOf('a') != nil {
		outcome = 0
		if p.lineOf('a') != nil {
			outcome = 1
		}
	}
	known[p.signs] = outcome
	return outcome
}

func TestMakerWins(t *testing.T) {
	tests := map[string]bool{
		"1:": false, "9:": false, "1:0": true, "2:0": true, "2:1": true, "2:0.1": false, "3:0.1": false, "9:8": true,
		// The maker takes the node that two lines have.
		"3:0.1,0.2": true, "4:0.1,1.2,2.3": true, "9:0.8,1.8": true,
		// Pairs, and weights just below 2^(n - 1).
		"4:0.1,2.3": false, "3:0.1,0.1.2": false, "8:0.1,2.3,4.5,6.7": false,
		// Lines of three nodes, some of which have a node in common, or none.
		toe: true, "7:0.1.2,0.3.4,1.3.5,2.4.5,2.3.6,1.4.6,0.5.6": true,
		"9:0.1.2,3.4.5,6.7.8": false, "9:0.1.2,3.4.5,0.3.6,1.4.7,2.5.8,6.7.8": false,
	}
	for text, want := range tests {
		wins, code := impl.MakerWins(board(text))
		wantValue(t, "MakerWins of "+text, wins, code, want, impl.ErrNone)
	}
	count := map[bool]int{}
	for _, s := range slatesToSolve() {
		want := outcomes{}.making(s.onNodes(0, 0)) == 1
		count[want]++
		wins, code := impl.MakerWins(s.board())
		wantValue(t, "MakerWins of "+s.text(), wins, code, want, impl.ErrNone)
	}
	if count[true] < 50 || count[false] < 50 {
		t.Errorf("the maker wins, or not: %v", count)
	}
}

// Boards with more than MaxSolve nodes are not solved, but what needs no look at all plays is found.
func TestSolveLimit(t *testing.T) {
	for _, s := range manySlates() {
		if s.nodes > 9 {
			wantNoSolution(t, s.text(), s.board(), impl.ErrLimit)
		}
	}
	for _, text := range []string{"10:", "10:0.1.2", "10:8.9", "16:", "16:0.1,14.15", "11:3.4.5,1.10"} {
		b := board(text)
		n := b.Nodes
		// Running states.
		for _, sets := range [][2]int64{{0, 0}, {4, 0}, {1, 2}, {64 + 1, 8}, {1<<(n-1) + 1, 64 + 128}} {
			wantNoSets(t, b, sets[0], sets[1], impl.ErrLimit)
			wantIsState(t, b, sets[0], sets[1], true, impl.ErrNone)
			wantNoFilledLine(t, b, sets[0], sets[1], impl.ErrNotFound)
		}
		// What is no state has another error before this one.
		for _, sets := range [][2]int64{{0, 1}, {1, 1}, {3, 0}, {1, 6}, {7, 8}, {1<<n - 1, 0}} {
			wantNoSets(t, b, sets[0], sets[1], impl.ErrState)
			wantIsState(t, b, sets[0], sets[1], false, impl.ErrNone)
			wantNoFilledLine(t, b, sets[0], sets[1], impl.ErrState)
		}
		for _, sets := range [][2]int64{{-1, 0}, {0, -1}, {1 << n, 0}, {0, 1 << n}, {1 << n, 1 << n}, {3, 1 << n}} {
			wantNoSets(t, b, sets[0], sets[1], impl.ErrRange)
		}
	}
	// States that are not running: by a line of either player, and as no node is free.
	wantNoSets(t, board("10:0.1.2"), 7, 24, impl.ErrState)
	wantNoSets(t, board("10:0.1.2"), 24, 7-4, impl.ErrLimit)
	wantNoSets(t, board("10:0.1"), 24, 3, impl.ErrState)
	wantNoSets(t, board("10:"), 31, 31<<5, impl.ErrState)
	wantNoSets(t, board("16:"), 255, 255<<8, impl.ErrState)
	wantNoSets(t, board("16:"), 255, 127<<8, impl.ErrLimit)
}

func TestIsState(t *testing.T) {
	b := board(toe)
	for _, sets := range [][2]int64{{0, 0}, {1, 0}, {256, 0}, {1, 2}, {2, 1}, {3, 4}, {3, 12}, {7, 24}, {7, 56}, {31, 15 << 5}, {15, 31 << 4 &^ 256}} {
		wantIsState(t, b, sets[0], sets[1], true, impl.ErrNone)
	}
	for _, sets := range [][2]int64{
		// Sets that share a node.
		{1, 1}, {3, 1}, {3, 2}, {3, 6}, {511, 511}, {256, 256}, {7, 3},
		// The first one has two nodes more, or more than these.
		{3, 0}, {7, 8}, {384, 0}, {511, 0}, {31, 32 + 64 + 128},
		// The second one has one more, or more.
		{0, 1}, {1, 6}, {0, 256}, {0, 511}, {15, 31 << 4},
	} {
		wantIsState(t, b, sets[0], sets[1], false, impl.ErrNone)
		wantNoFilledLine(t, b, sets[0], sets[1], impl.ErrState)
		wantNoSets(t, b, sets[0], sets[1], impl.ErrState)
	}
	// One node, and sixteen.
	wantIsState(t, board("1:"), 0, 0, true, impl.ErrNone)
	wantIsState(t, board("1:0"), 1, 0, true, impl.ErrNone)
	wantIsState(t, board("1:"), 0, 1, false, impl.ErrNone)
	wantIsState(t, board("16:"), 255, 255<<8, true, impl.ErrNone)
	wantIsState(t, board("16:"), 511, 127<<9, false, impl.ErrNone)
	for _, s := range smallSlates() {
		for _, p := range s.plays() {
			first, second := p.numbers()
			wantIsState(t, s.board(), first, second, p.mover() != 0, impl.ErrNone)
		}
	}
}

// Numbers that are no sets of nodes are out of range, also where sets are no state, either.
func TestSetsOutOfRange(t *testing.T) {
	for _, text := range []string{"1:", "1:0", "2:0.1", "3:0.1,0.2", toe, "10:0.1", "16:", "16:14.15"} {
		b := board(text)
		for _, strange := range []int64{-1, -2, 1 << b.Nodes, 1<<b.Nodes + 1, 2<<b.Nodes - 1, 1 << 16, 1 << 32, 1<<32 + 1, 1 << 62, leastInt, leastInt + 1, greatestInt} {
			for _, usual := range []int64{0, 1, 1<<b.Nodes - 1, strange} {
				for _, sets := range [][2]int64{{strange, usual}, {usual, strange}} {
					wantIsState(t, b, sets[0], sets[1], false, impl.ErrRange)
					wantNoFilledLine(t, b, sets[0], sets[1], impl.ErrRange)
					wantNoSets(t, b, sets[0], sets[1], impl.ErrRange)
				}
			}
		}
	}
}

// wantFilledLine checks the player, and the line.
func wantFilledLine(t *testing.T, b impl.Board, first, second, wantPlayer int64, want []int) {
	t.Helper()
	player, line, code := impl.FilledLine(b, first, second)
	what := fmt.Sprint("FilledLine of ", b, first, second)
	wantValue(t, what, player, code, wantPlayer, impl.ErrNone)
	wantValue(t, what, line, code, numberOf(want), impl.ErrNone)
}

func TestFilledLine(t *testing.T) {
	b := board(toe)
	wantFilledLine(t, b, 7, 24, 0, []int{0, 1, 2})
	wantFilledLine(t, b, 448, 3, 0, []int{6, 7, 8})
	wantFilledLine(t, b, 1+2+256, 56, 1, []int{3, 4, 5})
	wantFilledLine(t, b, 1+2+8, 4+16+64, 1, []int{2, 4, 6})
	// Of several lines the least one.
	wantFilledLine(t, b, 7+8+64, 16+32+128+256, 0, []int{0, 1, 2})
	wantFilledLine(t, b, 16+1+256+4+64, 2+8+32+128, 0, []int{2, 4, 6})
	wantFilledLine(t, board("4:1,3,1.3"), 5, 10, 1, []int{1})
	wantFilledLine(t, board("5:2.3,1.2.3"), 2+4+8, 1+16, 0, []int{2, 3})
	// Lines of both players: that of the first one, though the other one is less.
	wantFilledLine(t, b, 56, 7, 0, []int{3, 4, 5})
	wantFilledLine(t, board("2:0,1"), 2, 1, 0, []int{1})
	// No line, with free nodes and without.
	for _, sets := range [][2]int64{{0, 0}, {1, 2}, {3, 4}, {3 + 256, 4 + 8}, {355, 156}} {
		wantNoFilledLine(t, b, sets[0], sets[1], impl.ErrNotFound)
	}
	wantNoFilledLine(t, board("1:"), 1, 0, impl.ErrNotFound)
	for _, s := range slices.Concat(smallSlates(), drawnSlates(67, 60, 4, 7, 9)) {
		for _, p := range s.plays() {
			first, second := p.numbers()
			player, line := p.filled()
			if p.mover() == 0 {
				wantNoFilledLine(t, s.board(), first, second, impl.ErrState)
			} else if player == 0 {
				wantNoFilledLine(t, s.board(), first, second, impl.ErrNotFound)
			} else {
				wantFilledLine(t, s.board(), first, second, int64(player-'a'), line)
			}
		}
	}
}

// raceCase tells what is known of a running state: the result, and the best nodes.
type raceCase struct {
	text          string
	first, second int64
	result        int64
	best          string
}

func raceCases() []raceCase {
	return []raceCase{
		{"1:", 0, 0, 0, "0"}, {"1:0", 0, 0, 1, "0"}, {"2:", 0, 0, 0, "0 1"}, {"2:", 1, 0, 0, "1"}, {"2:", 2, 0, 0, "0"}, {"2:0.1", 0, 0, 0, "0 1"}, {"2:1", 0, 0, 1, "1"}, {"2:1", 1, 0, 1, "1"}, {"2:0,1", 0, 0, 1, "0 1"},
		{"3:0.1,0.2", 0, 0, 1, "0"}, {"3:0.1,0.2", 2, 0, 0, "0"}, {"3:0.1,0.2", 1, 0, -1, "1 2"}, {"3:0.1,0.2", 1, 2, 1, "2"},
		// The player who is to take a node is told by how many nodes both have: as many, or one more for the first one.
		{toe, 0, 0, 0, "0 1 2 3 4 5 6 7 8"}, {toe, 1, 0, 0, "4"}, {toe, 16, 0, 0, "0 2 6 8"}, {toe, 2, 0, 0, "0 2 4 7"},
		{toe, 1, 2, 1, "3 4 6"}, {toe, 1, 16, 0, "1 2 3 5 6 7 8"}, {toe, 3, 16, 0, "2"},
		// The second player loses whatever it takes, and so does the first one.
		{toe, 1 + 16, 2, -1, "2 3 5 6 7 8"}, {toe, 1 + 2 + 32, 16 + 4, 1, "6"}, {toe, 2 + 8 + 64, 1 + 16 + 128, 0, "8"},
		{toe, 2 + 32, 1 + 16, 0, "8"}, {toe, 2 + 8, 4 + 64, 1, "4"}, {toe, 2 + 128, 4 + 64, 1, "4"}, {toe, 32 + 64, 1 + 4, 0, "1"}, {toe, 2 + 64 + 32, 1 + 4 + 16, 0, "8"}, {toe, 32 + 128 + 256, 1 + 4 + 64, -1, "1 3 4"},
		// Exactly nine nodes without lines, and one left.
		{"9:", 0, 0, 0, "0 1 2 3 4 5 6 7 8"}, {"9:", 15, 240, 0, "8"}, {toe, 355 - 256, 156, 0, "8"}, {toe, 355 - 1, 156, 0, "0"},
	}
}

func TestRaceByHand(t *testing.T) {
	for _, c := range raceCases() {
		what := fmt.Sprintf("%s, %d, %d", c.text, c.first, c.second)
		result, code := impl.RaceResult(board(c.text), c.first, c.second)
		wantValue(t, "RaceResult of "+what, result, code, c.result, impl.ErrNone)
		best, code := impl.BestNodes(board(c.text), c.first, c.second)
		wantList(t, "BestNodes of "+what, best, code, numbers(c.best))
	}
}

// A state that is not running has no result: a line of one of both players, or of both, is filled,
// or no node is free.
func TestRaceIsOver(t *testing.T) {
	for _, c := range []raceCase{
		{text: toe, first: 7, second: 24}, {text: toe, first: 7, second: 8 + 32 + 64}, {text: toe, first: 1 + 2 + 256, second: 56}, {text: toe, first: 7, second: 56}, {text: toe, first: 355, second: 156}, {text: toe, first: 31, second: 15 << 5},
		{text: "1:", first: 1}, {text: "1:0", first: 1}, {text: "2:", first: 1, second: 2}, {text: "2:0", first: 1}, {text: "2:0", first: 2, second: 1}, {text: "2:0,1", first: 2, second: 1}, {text: "9:", first: 31, second: 15 << 5},
	} {
		wantNoSets(t, board(c.text), c.first, c.second, impl.ErrState)
	}
}

// Results and best nodes of all states are those of another search.
func TestRaces(t *testing.T) {
	kinds := map[string]int{}
	slates := slices.Concat(smallSlates(), drawnSlates(87, 120, 4, 6, 9))
	for _, s := range slates {
		known := outcomes{}
		for _, p := range s.plays() {
			if p.mover() == 0 {
				continue
			}
			first, second := p.numbers()
			if !p.isRunning() {
				wantNoSets(t, s.board(), first, second, impl.ErrState)
				continue
			}
			wantRace(t, p, known)
			kinds[fmt.Sprintf("%c has the result %d", p.mover(), known.race(p))]++
			kinds[fmt.Sprintf("%d best nodes, all %v", min(len(known.best(p)), 2), len(known.best(p)) == len(p.free()))]++
		}
	}
	for _, kind := range []string{"a has the result 1", "a has the result 0", "a has the result -1", "b has the result 1", "b has the result 0", "b has the result -1", "1 best nodes, all false", "2 best nodes, all false", "2 best nodes, all true"} {
		if kinds[kind] < 20 {
			t.Errorf("there are too few of the kind %q: %v", kind, kinds)
		}
	}
}

// wantRace checks the result and the best nodes of a running state.
func wantRace(t *testing.T, p play, known outcomes) {
	t.Helper()
	b := p.board()
	first, second := p.numbers()
	result, code := impl.RaceResult(b, first, second)
	wantValue(t, fmt.Sprint("RaceResult of ", p.text(), p.signs), result, code, int64(known.race(p)), impl.ErrNone)
	best, code := impl.BestNodes(b, first, second)
	wantList(t, fmt.Sprint("BestNodes of ", p.text(), p.signs), best, code, known.best(p))
}

// Larger boards are looked at along plays at random.
func TestRacesOnLargerBoards(t *testing.T) {
	var d dice = 97
	for _, s := range slates7() {
		known := outcomes{}
		for p := s.onNodes(0, 0); p.isRunning(); p = p.behind(p.free()[d.below(int64(len(p.free())))]) {
			wantRace(t, p, known)
		}
	}
}

// slates7 returns slates of 7 to 9 nodes that can be solved, some of them grids.
func slates7() []slate {
	slates := drawnSlates(107, 25, 7, 9, 14)
	for _, size := range [][3]int64{{3, 3, 3}, {3, 3, 2}, {4, 2, 3}, {8, 1, 2}, {7, 1, 3}} {
		slates = append(slates, slateWith(int(size[0]*size[1]), first(impl.GridBoard(size[0], size[1], size[2])).Lines))
	}
	return slates
}

func TestPlayRace(t *testing.T) {
	tests := map[string]string{
		// Plays that end with all nodes taken, and plays that end by a line.
		"1:": "0", "2:": "0 1", "9:": "0 1 2 3 4 5 6 7 8", "2:0.1": "0 1", "4:0.1,2.3": "0 1 2 3", "3:0.1.2": "0 1 2",
		"1:0": "0", "2:1": "1", "3:1,0.1": "1", "3:0.1,0.2": "0 1 2", "4:0.1,1.2,2.3": "1 0 2", "3:0.2,1.2": "2 0 1", "9:8": "8", "9:0,8": "0", "5:0.1,1.2,2.3,3.4": "1 0 2",
		toe: "0 4 1 2 6 3 5 7 8",
	}
	for text, want := range tests {
		play, code := impl.PlayRace(board(text))
		wantList(t, "PlayRace of "+text, play, code, numbers(want))
	}
	byLine := map[bool]int{}
	for _, s := range slatesToSolve() {
		known := outcomes{}
		var want []int64
		p := s.onNodes(0, 0)
		for ; p.isRunning(); p = p.behind(int(want[len(want)-1])) {
			want = append(want, known.best(p)[0])
		}
		player, _ := p.filled()
		byLine[player != 0]++
		play, code := impl.PlayRace(s.board())
		wantList(t, "PlayRace of "+s.text(), play, code, want)
	}
	if byLine[true] < 50 || byLine[false] < 50 {
		t.Errorf("plays end by a line, or not: %v", byLine)
	}
}

func TestBoardText(t *testing.T) {
	tests := map[string]impl.Board{
		"1:": {Nodes: 1}, "16:": {Nodes: 16}, "10:": {Nodes: 10}, "1:0": {Nodes: 1, Lines: []int64{1}}, "4:0.1,1.2,2.3": {Nodes: 4, Lines: []int64{3, 6, 12}}, "2:0,1,0.1": {Nodes: 2, Lines: []int64{1, 2, 3}}, "3:2": {Nodes: 3, Lines: []int64{4}},
		toe: {Nodes: 9, Lines: []int64{7, 56, 73, 84, 146, 273, 292, 448}},
		"16:0.1.2.3.4.5.6.7.8.9.10.11.12.13.14.15": {Nodes: 16, Lines: []int64{65535}},
		"16:9.10,0.15,10.11.12.13.14.15":           {Nodes: 16, Lines: []int64{1536, 32769, 64512}},
		"11:0,9,10":                                {Nodes: 11, Lines: []int64{1, 512, 1024}},
		"13:1.12,0.11.12":                          {Nodes: 13, Lines: []int64{4098, 6145}},
	}
	for want, b := range tests {
		text, code := impl.BoardText(b)
		wantValue(t, "BoardText", text, code, want, impl.ErrNone)
		again, code := impl.ParseBoard(want)
		wantBoard(t, "ParseBoard of "+want, again, code, want)
	}
}

// The guarantee: boards come back from their texts.
func TestBoardsComeBackFromTheirTexts(t *testing.T) {
	for _, s := range manySlates() {
		text, code := impl.BoardText(s.board())
		wantValue(t, "BoardText", text, code, s.text(), impl.ErrNone)
		again, code := impl.ParseBoard(text)
		wantBoard(t, "ParseBoard of "+text, again, code, s.text())
	}
}

func TestParseBoardSyntax(t *testing.T) {
	hundred := slateWith(7, upTo(1, 100)).text()
	bad := []string{
		// No colon, or several, or other signs in its place.
		"", "3", "16", "0.1", "3 0.1", "3;0.1", "3,0.1", "3.0", "3::", "3::0", "3:0:", "3:0:1", ":", "::", "30.1,1.2", "3=0.1", "3\n0",
		// No number of nodes, or a wrong one.
		":0", ":0.1", "0:", "0:0", "17:", "17:0", "17:16", "18:0.1", "99:", "-1:", "-1:0", "-3:0.1", "x:", "x:0", "3x:0", "256:", "4294967299:0", "18446744073709551617:", "9223372036854775807:", "-9223372036854775808:", "99999999999999999999999:",
		// Leading zeros, signs and spaces.
		"03:", "03:0.1", "00:", "01:0", "3:00", "3:00.1", "3:0.01", "3:01", "3:0.1,01.2", "+3:0.1", "3:+0.1", "3:-0", "3:-1", "3:0.-1", "3:-1.0", "3:0.1,-1.2", "3:0.+1", "1e1:0", "0x3:0", "3:0x1", "3:0_1", "1_0:0",
		" 3:", "3 :", "3: ", " 3:0.1", "3: 0.1", "3:0 .1", "3:0. 1", "3:0.1 ", "3:0.1, 1.2", "3:0.1 ,1.2", "3:0.1\n", "3:0.1\x00", "\t3:0", "\ufeff3:0", "３:0", "3:０", "3：0", "3:0．1",
		// Nodes that are none.
		"3:3", "3:0.3", "3:0.1.2.3", "3:16", "3:0.16", "1:1", "16:16", "16:0.16", "16:0.17", "16:63", "16:0.63", "16:64", "16:0.64", "16:1.65", "16:256", "16:0.4294967296", "3:0.9223372036854775807", "3:0.18446744073709551616", "3:0.99999999999999999999", "16:-64", "16:0.-1", "3:x", "3:0.x", "3:a.b",
		// A node twice in a line, and nodes that descend.
		"3:0.0", "3:0.0.1", "3:0.1.1", "3:0.1.0", "3:1.0", "3:2.1", "3:0.2.1", "3:1.0.2", "3:0.1,2.1", "16:10.9", "16:2.10.9", "16:10.2",
		// Lines in a wrong order, and equal ones.
		"3:1,0", "3:0,0", "3:0.1,0", "3:0.1,0.1", "3:0.1,1.2,0.2", "3:1.2,0.1", "3:2,0.1", "4:0.3,1.2", "16:10,9", "16:10,2", "3:0.1.2,1.2", "3:0,0.1,1",
		// Lines without nodes, and signs without numbers.
		"3:,", "3:,0", "3:0,", "3:0,,1", "3:.", "3:.0", "3:0.", "3:0.,1", "3:0.1,", "3:0..1", "3:0.1.", "3:.0.1", "3:0,.", "3:0,.1", "3:0.1,,1.2", "3:,,", "3:0;1", "3:0/1", "3:0 1", "3:0-1", "3:0.1;1.2",
		// 101 lines, and many more.
		slateWith(7, upTo(1, 101)).text(), slateWith(16, upTo(1, 2000)).text(), hundred + ",0.1.2.3.4.5.6", hundred + ",", "," + hundred,
		// Texts of other things.
		"1.2,2,", "a,b", "1x1:0000", "3,4;", ".b,1", "..1/.2./1..", "[3 6]", "3:[0 1]", "3:0.1}",
		strings.Repeat("3:", 3000), strings.Repeat(",", 5000), "3:" + strings.Repeat(",", 5000), "3:" + strings.Repeat("0.", 5000), "3:" + strings.Repeat("0,", 5000), "3:0" + strings.Repeat(".1", 5000), strings.Repeat("3", 5000) + ":", "3:" + strings.Repeat("1", 5000),
	}
	for _, text := range bad {
		b, code := impl.ParseBoard(text)
		wantNoBoard(t, "ParseBoard of "+strconv.Quote(text), b, code, impl.ErrSyntax)
	}
	// A text with one byte changed, left out or added is one of another board, or of none.
	for _, text := range []string{"1:", "1:0", "3:0.1,0.2", "4:0.1,1.2,2.3", "16:", "16:9.10,0.15", "12:0.1.11,2.10.11", "10:8.9"} {
		for changed := range changedTexts(text) {
			wantBoardOrNone(t, changed)
		}
	}
}

// wantBoardOrNone checks that a text is read exactly if it is the text of a board.
func wantBoardOrNone(t *testing.T, text string) {
	t.Helper()
	b, code := impl.ParseBoard(text)
	if isTextOfBoard(text) {
		wantBoard(t, "ParseBoard of "+strconv.Quote(text), b, code, text)
	} else {
		wantNoBoard(t, "ParseBoard of "+strconv.Quote(text), b, code, impl.ErrSyntax)
	}
}

var boardForm = regexp.MustCompile(`^([1-9]|1[0-6]):((0|[1-9]|1[0-5])(\.([0-9]|1[0-5]))*(,([0-9]|1[0-5])(\.([0-9]|1[0-5]))*)*)?\z`)

// isTextOfBoard reports whether a text has the form of one of a board, and its numbers ascend and
// are less than that of the nodes.
func isTextOfBoard(text string) bool {
	if !boardForm.MatchString(text) {
		return false
	}
	s := slateOf(text)
	last := int64(0)
	for _, line := range s.lines {
		for k, node := range line {
			if node >= s.nodes || k > 0 && node <= line[k-1] {
				return false
			}
		}
		if numberOf(line) <= last {
			return false
		}
		last = numberOf(line)
	}
	return len(s.lines) <= 100
}

// Promise 7, and the guarantee: breakers win boards with pairings, whatever their weight is.
func TestBreakersWinBoardsWithPairings(t *testing.T) {
	heavy := 0
	for _, s := range slices.Concat(slatesToSolve(), drawnSlates(117, 300, 4, 9, 8)) {
		if _, code := impl.FindPairing(s.board()); code != impl.ErrNone {
			continue
		}
		wins, code := impl.MakerWins(s.board())
		wantValue(t, "MakerWins of "+s.text(), wins, code, false, impl.ErrNone)
		if 2*s.weight() >= 1<<s.nodes {
			heavy++
		}
	}
	if heavy < 20 {
		t.Errorf("there are only %d boards with pairings that are not of little weight", heavy)
	}
}

// On boards that are too large to be solved the breaker takes the other node of each pair.
func TestBreakersWinByPairs(t *testing.T) {
	var d dice = 127
	played := 0
	for _, s := range manySlates() {
		pairs, code := impl.FindPairing(s.board())
		if code != impl.ErrNone || len(pairs) == 0 {
			continue
		}
		played++
		other := map[int]int{}
		for _, pair := range pairs {
			other[int(pair[0])], other[int(pair[1])] = int(pair[1]), int(pair[0])
		}
		p := s.onNodes(0, 0)
		for len(p.free()) > 0 {
			node := p.free()[d.below(int64(len(p.free())))]
			p = p.behind(node)
			if reply, ok := other[node]; ok && p.signs[reply] == '.' {
				p = p.behind(reply)
			} else if len(p.free()) > 0 {
				p = p.behind(p.free()[0])
			}
		}
		if line := p.lineOf('a'); line != nil {
			t.Errorf("%s: the maker has the line %v though the breaker took the other nodes of %v", s.text(), line, pairs)
		}
	}
	if played < 100 {
		t.Errorf("only %d boards have pairs", played)
	}
}

// Promise 7, and the guarantee: breakers win boards of little weight, whether there is a pairing or
// not.
func TestBreakersWinBoardsOfLittleWeight(t *testing.T) {
	light, unpaired, nearly := 0, 0, 0
	for _, s := range slices.Concat(slatesToSolve(), drawnSlates(137, 600, 4, 9, 9), []slate{
		// Seven lines of four nodes have the weight 56, and no three pairs are enough for them.
		slateOf("7:1.2.3.4,0.2.3.5,0.1.4.5,0.1.3.6,0.2.4.6,1.2.5.6,3.4.5.6"),
	}) {
		weight := first(impl.WeightOf(s.board()))
		if 2*weight >= 1<<s.nodes {
			continue
		}
		light++
		if _, code := impl.FindPairing(s.board()); code == impl.ErrNotFound {
			unpaired++
		}
		if 2*weight >= 1<<s.nodes*3/4 {
			nearly++
		}
		wins, code := impl.MakerWins(s.board())
		wantValue(t, "MakerWins of "+s.text(), wins, code, false, impl.ErrNone)
	}
	if light < 100 || unpaired < 1 || nearly < 20 {
		t.Errorf("there are only %d boards of little weight, %d of them without a pairing, and %d near to the limit", light, unpaired, nearly)
	}
}

// Promise 7, and the guarantee: races are not won by the second player; and they are won by the
// first one only where this player would win as a maker.
func TestRacesAreNotWonByTheSecondPlayer(t *testing.T) {
	won := map[bool]int{}
	for _, s := range slatesToSolve() {
		result, code := impl.RaceResult(s.board(), 0, 0)
		if code != impl.ErrNone || result != 0 && result != 1 {
			t.Fatalf("RaceResult of %s = %d, code %d", s.text(), result, code)
		}
		won[result == 1]++
		if makes := first(impl.MakerWins(s.board())); result == 1 && !makes {
			t.Errorf("%s: the race is won, but not by the maker", s.text())
		}
		p := s.onNodes(0, 0)
		for _, node := range first(impl.PlayRace(s.board())) {
			p = p.behind(int(node))
		}
		if player, _ := p.filled(); player == 'b' || (player == 'a') != (result == 1) {
			t.Errorf("%s: the result is %d, but the play ends with %s", s.text(), result, p.signs)
		}
	}
	if won[true] < 50 || won[false] < 50 {
		t.Errorf("races are won, or not: %v", won)
	}
}

// The guarantee: best nodes keep results, no others do, and there is always one.
func TestBestNodesKeepResults(t *testing.T) {
	var d dice = 147
	for _, s := range slices.Concat(slates7(), drawnSlates(157, 40, 3, 7, 9)) {
		b := s.board()
		for p := s.onNodes(0, 0); p.isRunning(); p = p.behind(p.free()[d.below(int64(len(p.free())))]) {
			one, other := p.numbers()
			result, best := first(impl.RaceResult(b, one, other)), first(impl.BestNodes(b, one, other))
			if len(best) == 0 {
				t.Errorf("%s, %s: there is no best node", s.text(), p.signs)
			}
			for _, node := range p.free() {
				next := p.behind(node)
				kept := result == 0
				if player, _ := next.filled(); player != 0 {
					kept = result == 1
				} else if next.isRunning() {
					one, other := next.numbers()
					kept = result == -first(impl.RaceResult(b, one, other))
				}
				if slices.Contains(best, int64(node)) != kept {
					t.Errorf("%s, %s: BestNodes are %v, but %d keeps the result %d: %v", s.text(), p.signs, best, node, result, kept)
				}
			}
		}
	}
}

func TestBoardArgumentsStayAsTheyAre(t *testing.T) {
	for _, text := range []string{"1:0", "4:0.1,1.2,2.3", "6:0.1.2.3,0.4,1.5", "8:0.1,2.3,4.5,6.7", toe, "16:0.1,14.15"} {
		lines, whole := roomy(board(text).Lines)
		before := slices.Clone(whole)
		b := impl.Board{Nodes: board(text).Nodes, Lines: lines}
		impl.IsBoard(b)
		impl.WeightOf(b)
		impl.LeastMeeting(b)
		impl.MakerWins(b)
		impl.IsState(b, 1, 0)
		impl.FilledLine(b, 1, 0)
		impl.RaceResult(b, 0, 0)
		impl.BoardText(b)
		for p := range b.Nodes {
			spoil(first(impl.LinesThrough(b, p)))
		}
		for _, pair := range first(impl.FindPairing(b)) {
			spoil(pair)
		}
		spoil(first(impl.BestNodes(b, 0, 0)))
		spoil(first(impl.PlayRace(b)))
		if !slices.Equal(whole, before) {
			t.Errorf("%s has become %v", text, whole)
		}
	}
}

func TestPairsShareNoMemory(t *testing.T) {
	b := board("16:0.1,2.3,4.5,6.7,8.9,10.11,12.13,14.15")
	wantApart(t, "FindPairing", 8, func() [][]int64 { return first(impl.FindPairing(b)) })
}

// The same call has the same result, whatever calls and changes of results came before it.
func TestBoardsKeepNoState(t *testing.T) {
	b := board(toe)
	results := func() string {
		grid, code := impl.GridBoard(4, 3, 2)
		read, second := impl.ParseBoard("4:0.1,1.2")
		through, third := impl.LinesThrough(b, 4)
		best, fourth := impl.BestNodes(b, 1, 2)
		play, fifth := impl.PlayRace(b)
		text := fmt.Sprint(grid, code, read, second, through, third, best, fourth, play, fifth)
		for _, list := range [][]int64{grid.Lines, read.Lines, through, best, play} {
			spoil(list)
		}
		return text
	}
	want := results()
	impl.PlayRace(board("4:0.1,1.2,2.3"))
	impl.MakerWins(board("9:0.1"))
	for range 3 {
		if got := results(); got != want {
			t.Errorf("results have changed to %s", got)
		}
	}
}
