package tests

import (
	"bytes"
	"slices"
	"strconv"
	"strings"
	"testing"

	"loop.example/g01388/impl"
)

// boxes returns the position with a text.
func boxes(t *testing.T, text string) impl.Boxes {
	t.Helper()
	b, code := impl.ParseBoxes(text)
	if code != impl.ErrNone {
		t.Fatalf("ParseBoxes(%q): code %d", text, code)
	}
	return b
}

// boxesText returns the text of a position.
func boxesText(t *testing.T, b impl.Boxes) string {
	t.Helper()
	text, code := impl.BoxesText(b)
	if code != impl.ErrNone {
		t.Fatalf("BoxesText(%v): code %d", b, code)
	}
	return text
}

// edgesOfGrid returns the numbers of the edges of all grids by their sizes.
func edgesOfGrid() map[[2]int64]int64 {
	return map[[2]int64]int64{
		{1, 1}: 4, {1, 2}: 7, {1, 3}: 10,
		{2, 1}: 7, {2, 2}: 12, {2, 3}: 17,
		{3, 1}: 10, {3, 2}: 17, {3, 3}: 24,
	}
}

// fullBoxes returns, for each grid, the position with all edges drawn.
func fullBoxes() []impl.Boxes {
	var full []impl.Boxes
	for size, edges := range edgesOfGrid() {
		full = append(full, impl.Boxes{Wide: size[0], High: size[1], Edges: 1<<edges - 1})
	}
	return full
}

// allBoxes returns all positions of the grids of at most so many edges.
func allBoxes(most int64) []impl.Boxes {
	var positions []impl.Boxes
	for _, full := range fullBoxes() {
		for edges := int64(0); edges <= full.Edges && full.Edges < 1<<most; edges++ {
			positions = append(positions, impl.Boxes{Wide: full.Wide, High: full.High, Edges: edges})
		}
	}
	return positions
}

// someBoxes returns positions of the greater grids with few edges drawn, and with many.
func someBoxes() []impl.Boxes {
	var d dice = 3
	var positions []impl.Boxes
	for _, size := range [][2]int64{{2, 2}, {2, 3}, {3, 2}, {3, 3}} {
		for k := range int64(120) {
			b := impl.Boxes{Wide: size[0], High: size[1]}
			for e := range edgesOfGrid()[size] {
				if d.below(120) < k {
					b.Edges |= 1 << e
				}
			}
			positions = append(positions, b)
		}
	}
	return positions
}

// manyBoxes returns positions of all grids.
func manyBoxes() []impl.Boxes {
	return slices.Concat(allBoxes(12), someBoxes(), fullBoxes())
}

// boxesToSearch returns positions of all grids with at most MaxBest edges that are not drawn; they
// are fewer than all of those, as each one takes some time.
func boxesToSearch(t *testing.T) []impl.Boxes {
	t.Helper()
	return slices.DeleteFunc(slices.Concat(allBoxes(10), someBoxes(), fullBoxes()), func(b impl.Boxes) bool {
		return strings.Count(boxesText(t, b), "0") > impl.MaxBest
	})
}

// boxesName tells the size of a grid.
func boxesName(b impl.Boxes) string {
	return strconv.FormatInt(b.Wide, 10) + "x" + strconv.FormatInt(b.High, 10)
}

// badBoxes returns some of each kind of what is not a position.
func badBoxes() map[string]impl.Boxes {
	bad := map[string]impl.Boxes{"zero value": {}}
	for _, n := range []int64{0, 4, -1, 5, 1<<32 + 1, leastInt, greatestInt} {
		name := strconv.FormatInt(n, 10)
		bad[name+" wide"] = impl.Boxes{Wide: n, High: 1}
		bad[name+" wide, 3 high"] = impl.Boxes{Wide: n, High: 3, Edges: 5}
		bad[name+" high"] = impl.Boxes{Wide: 1, High: n}
		bad[name+" high, 3 wide"] = impl.Boxes{Wide: 3, High: n, Edges: 5}
		bad[name+" wide and high"] = impl.Boxes{Wide: n, High: n}
	}
	for _, full := range fullBoxes() {
		for _, edges := range []int64{-1, leastInt, full.Edges + 1, full.Edges*2 + 1, 1 << 24, 1 << 32, 1 << 62, greatestInt} {
			name := boxesName(full) + " with edges " + strconv.FormatInt(edges, 10)
			bad[name] = impl.Boxes{Wide: full.Wide, High: full.High, Edges: edges}
		}
	}
	return bad
}

// sheet is a position as it stands on paper, dots and boxes left blank: a second way to what the
// numbers tell. Edges that lie are the odd signs of the even rows, those that stand the even signs
// of the odd rows, and boxes the odd signs of the odd rows.
type sheet [][]byte

// sheetPlace is the row and the column of a sign.
type sheetPlace [2]int

// sheetOf returns the sheet of a text.
func sheetOf(text string) sheet {
	wide, high := int(text[0]-'0'), int(text[2]-'0')
	s := make(sheet, 2*high+1)
	for y := range s {
		s[y] = bytes.Repeat([]byte{' '}, 2*wide+1)
	}
	for e, place := range s.edges() {
		s[place[0]][place[1]] = text[4+e]
	}
	return s
}

// text returns the text of a sheet.
func (s sheet) text() string {
	text := []byte{byte('0' + len(s[0])/2), 'x', byte('0' + len(s)/2), ':'}
	for _, place := range s.edges() {
		text = append(text, s[place[0]][place[1]])
	}
	return string(text)
}

// places returns the places in every second row and column from some on.
func (s sheet) places(y, x int) []sheetPlace {
	var places []sheetPlace
	for row := y; row < len(s); row += 2 {
		for column := x; column < len(s[row]); column += 2 {
			places = append(places, sheetPlace{row, column})
		}
	}
	return places
}

func (s sheet) edges() []sheetPlace {
	return append(s.places(0, 1), s.places(1, 0)...)
}

// around returns the places beside one that are on the sheet: the edges of a box, or the boxes, and
// dots, of an edge.
func (s sheet) around(place sheetPlace) []sheetPlace {
	var beside []sheetPlace
	for _, step := range []sheetPlace{{-1, 0}, {1, 0}, {0, -1}, {0, 1}} {
		y, x := place[0]+step[0], place[1]+step[1]
		if y >= 0 && y < len(s) && x >= 0 && x < len(s[y]) {
			beside = append(beside, sheetPlace{y, x})
		}
	}
	return beside
}

// drawn returns how many edges of a box are drawn.
func (s sheet) drawn(box sheetPlace) int64 {
	count := int64(0)
	for _, edge := range s.around(box) {
		if s[edge[0]][edge[1]] == '1' {
			count++
		}
	}
	return count
}

// filled returns how many boxes have so many edges drawn, of those that an edge lies in.
func (s sheet) filled(edge sheetPlace, n int64) int64 {
	count := int64(0)
	for _, box := range s.around(edge) {
		if box[0]%2 == 1 && box[1]%2 == 1 && s.drawn(box) == n {
			count++
		}
	}
	return count
}

// boxesWith returns the numbers of the boxes of which so many edges are drawn.
func (s sheet) boxesWith(n int64) []int64 {
	var numbers []int64
	for i, box := range s.places(1, 1) {
		if s.drawn(box) == n {
			numbers = append(numbers, int64(i))
		}
	}
	return numbers
}

// freeEdges returns the numbers of the edges that are not drawn.
func (s sheet) freeEdges() []int64 {
	var free []int64
	for e, edge := range s.edges() {
		if s[edge[0]][edge[1]] == '0' {
			free = append(free, int64(e))
		}
	}
	return free
}

// with returns the sheet behind drawing an edge, and how many boxes it makes taken.
func (s sheet) with(e int64) (sheet, int64) {
	edge := s.edges()[e]
	next := sheetOf(s.text())
	next[edge[0]][edge[1]] = '1'
	return next, next.filled(edge, 4)
}

// reflected returns the sheet turned over from left to right, from top to bottom, or along the
// slanting line from its top left corner.
func (s sheet) reflected(kind int64) sheet {
	next := sheetOf(s.text())
	switch kind {
	case 0:
		for _, row := range next {
			slices.Reverse(row)
		}
	case 1:
		slices.Reverse(next)
	default:
		next = make(sheet, len(s[0]))
		for x := range next {
			for _, row := range s {
				next[x] = append(next[x], row[x])
			}
		}
	}
	return next
}

// gain returns what the player gets, less what the other one gets, who draws an edge.
func (s sheet) gain(e int64, known map[string]int64) int64 {
	next, taken := s.with(e)
	if taken > 0 {
		return taken + next.score(known)
	}
	return -next.score(known)
}

// score returns the net score, by playing all plays out.
func (s sheet) score(known map[string]int64) int64 {
	text := s.text()
	if score, ok := known[text]; ok {
		return score
	}
	var gains []int64
	for _, e := range s.freeEdges() {
		gains = append(gains, s.gain(e, known))
	}
	score := int64(0)
	if len(gains) > 0 {
		score = slices.Max(gains)
	}
	known[text] = score
	return score
}

func TestBoxesConstants(t *testing.T) {
	if impl.MaxEdges != 24 || impl.MaxBest != 12 {
		t.Errorf("the limits are %d and %d", impl.MaxEdges, impl.MaxBest)
	}
}

func TestIsBoxes(t *testing.T) {
	for _, b := range manyBoxes() {
		if !impl.IsBoxes(b) {
			t.Errorf("%v is a position", b)
		}
	}
	for name, b := range badBoxes() {
		if impl.IsBoxes(b) {
			t.Errorf("%s: %v is no position", name, b)
		}
	}
}

// ErrInvalid comes before all other errors, whatever numbers are beside the position.
func TestBoxesInvalidComesFirst(t *testing.T) {
	for name, bad := range badBoxes() {
		count, code := impl.CountEdges(bad)
		wantValue(t, name+": CountEdges", count, code, 0, impl.ErrInvalid)
		list, code := impl.TakenBoxes(bad)
		wantNoList(t, name+": TakenBoxes", list, code, impl.ErrInvalid)
		list, code = impl.FreeEdges(bad)
		wantNoList(t, name+": FreeEdges", list, code, impl.ErrInvalid)
		list, code = impl.SafeEdges(bad)
		wantNoList(t, name+": SafeEdges", list, code, impl.ErrInvalid)
		least, code := impl.LeastBoxes(bad)
		wantValue(t, name+": LeastBoxes", least, code, impl.Boxes{}, impl.ErrInvalid)
		score, code := impl.NetScore(bad)
		wantValue(t, name+": NetScore", score, code, 0, impl.ErrInvalid)
		list, code = impl.BestEdges(bad)
		wantNoList(t, name+": BestEdges", list, code, impl.ErrInvalid)
		list, code = impl.PlayBoxes(bad)
		wantNoList(t, name+": PlayBoxes", list, code, impl.ErrInvalid)
		text, code := impl.BoxesText(bad)
		wantValue(t, name+": BoxesText", text, code, "", impl.ErrInvalid)
		for _, number := range []int64{0, -1, 2, 3, 5, 24, 63, 64, leastInt, greatestInt} {
			list, code = impl.EdgesOfBox(bad, number)
			wantNoList(t, name+": EdgesOfBox", list, code, impl.ErrInvalid)
			list, code = impl.BoxesWith(bad, number)
			wantNoList(t, name+": BoxesWith", list, code, impl.ErrInvalid)
			next, taken, code := impl.AddEdge(bad, number)
			wantValue(t, name+": AddEdge", next, code, impl.Boxes{}, impl.ErrInvalid)
			wantValue(t, name+": boxes of AddEdge", taken, code, 0, impl.ErrInvalid)
			next, code = impl.ReflectBoxes(bad, number)
			wantValue(t, name+": ReflectBoxes", next, code, impl.Boxes{}, impl.ErrInvalid)
		}
	}
}

// ErrRange comes before ErrState: an edge behind the last one is not looked for among those drawn.
func TestBoxesRange(t *testing.T) {
	for _, full := range fullBoxes() {
		for _, b := range []impl.Boxes{full, {Wide: full.Wide, High: full.High}} {
			edges := edgesOfGrid()[[2]int64{b.Wide, b.High}]
			for _, off := range []int64{-1, -2, 1 << 32, -1 << 32, leastInt, greatestInt} {
				list, code := impl.EdgesOfBox(b, off)
				wantNoList(t, "EdgesOfBox", list, code, impl.ErrRange)
				list, code = impl.BoxesWith(b, off)
				wantNoList(t, "BoxesWith", list, code, impl.ErrRange)
				next, code := impl.ReflectBoxes(b, off)
				wantValue(t, "ReflectBoxes", next, code, impl.Boxes{}, impl.ErrRange)
				wantNoEdge(t, b, off, impl.ErrRange)
			}
			for _, i := range []int64{b.Wide * b.High, b.Wide*b.High + 1, 9, 24} {
				list, code := impl.EdgesOfBox(b, i)
				wantNoList(t, "EdgesOfBox", list, code, impl.ErrRange)
			}
			for _, n := range []int64{5, 6, 24} {
				list, code := impl.BoxesWith(b, n)
				wantNoList(t, "BoxesWith", list, code, impl.ErrRange)
			}
			for _, kind := range []int64{3, 4, 24} {
				next, code := impl.ReflectBoxes(b, kind)
				wantValue(t, "ReflectBoxes", next, code, impl.Boxes{}, impl.ErrRange)
			}
			for _, e := range []int64{edges, edges + 1, 24, 63, 64} {
				wantNoEdge(t, b, e, impl.ErrRange)
			}
		}
	}
}

// wantNoEdge checks that AddEdge returns an error, and zero values beside it.
func wantNoEdge(t *testing.T, b impl.Boxes, e int64, want int64) {
	t.Helper()
	next, taken, code := impl.AddEdge(b, e)
	wantValue(t, "AddEdge", next, code, impl.Boxes{}, want)
	wantValue(t, "boxes of AddEdge", taken, code, 0, want)
}

func TestCountEdges(t *testing.T) {
	for _, full := range fullBoxes() {
		want := edgesOfGrid()[[2]int64{full.Wide, full.High}]
		for _, b := range []impl.Boxes{full, {Wide: full.Wide, High: full.High}, {Wide: full.Wide, High: full.High, Edges: 5}} {
			count, code := impl.CountEdges(b)
			wantValue(t, "CountEdges", count, code, want, impl.ErrNone)
		}
	}
}

func TestEdgesOfBox(t *testing.T) {
	tests := []struct {
		wide, high, box int64
		want            []int64
	}{
		{1, 1, 0, []int64{0, 1, 2, 3}},
		{1, 3, 0, []int64{0, 1, 4, 5}},
		{1, 3, 1, []int64{1, 2, 6, 7}},
		{1, 3, 2, []int64{2, 3, 8, 9}},
		{3, 1, 0, []int64{0, 3, 6, 7}},
		{3, 1, 1, []int64{1, 4, 7, 8}},
		{3, 1, 2, []int64{2, 5, 8, 9}},
		{2, 3, 5, []int64{5, 7, 15, 16}},
		{3, 2, 5, []int64{5, 8, 15, 16}},
		{3, 3, 0, []int64{0, 3, 12, 13}},
		{3, 3, 2, []int64{2, 5, 14, 15}},
		{3, 3, 4, []int64{4, 7, 17, 18}},
		{3, 3, 6, []int64{6, 9, 20, 21}},
		{3, 3, 8, []int64{8, 11, 22, 23}},
	}
	for _, test := range tests {
		for _, edges := range []int64{0, 15} {
			list, code := impl.EdgesOfBox(impl.Boxes{Wide: test.wide, High: test.high, Edges: edges}, test.box)
			wantList(t, "EdgesOfBox", list, code, test.want)
		}
	}
}

// The edges of each box of each grid are those beside it on paper.
func TestEdgesOfBoxesAgainstSheets(t *testing.T) {
	for _, full := range fullBoxes() {
		s := sheetOf(boxesText(t, full))
		for i, box := range s.places(1, 1) {
			var want []int64
			for _, edge := range s.around(box) {
				want = append(want, int64(slices.Index(s.edges(), edge)))
			}
			slices.Sort(want)
			list, code := impl.EdgesOfBox(full, int64(i))
			wantList(t, "EdgesOfBox", list, code, want)
		}
	}
}

func TestBoxesByTheirEdges(t *testing.T) {
	tests := []struct {
		text string
		with [5][]int64
		free []int64
	}{
		{"1x1:0000", [5][]int64{0: {0}}, []int64{0, 1, 2, 3}},
		{"1x1:0100", [5][]int64{1: {0}}, []int64{0, 2, 3}},
		{"1x1:1001", [5][]int64{2: {0}}, []int64{1, 2}},
		{"1x1:0111", [5][]int64{3: {0}}, []int64{0}},
		{"1x1:1111", [5][]int64{4: {0}}, nil},
		{"2x1:1010110", [5][]int64{1: {1}, 4: {0}}, []int64{1, 3, 6}},
		{"1x3:0011001111", [5][]int64{0: {0}, 3: {1}, 4: {2}}, []int64{0, 1, 4, 5}},
		{"3x1:1101101110", [5][]int64{1: {2}, 4: {0, 1}}, []int64{2, 5, 9}},
		{"3x3:" + strings.Repeat("0", 24), [5][]int64{0: upTo(0, 8)}, upTo(0, 23)},
		{"3x3:" + strings.Repeat("1", 24), [5][]int64{4: upTo(0, 8)}, nil},
		{"3x3:" + strings.Repeat("1", 12) + strings.Repeat("0", 12), [5][]int64{2: upTo(0, 8)}, upTo(12, 23)},
		{"3x3:100100000001110000000011", [5][]int64{0: {2, 4, 5, 6}, 1: {1, 3, 7}, 3: {8}, 4: {0}},
			[]int64{1, 2, 4, 5, 6, 7, 8, 9, 10, 14, 15, 16, 17, 18, 19, 20, 21}},
	}
	for _, test := range tests {
		b := boxes(t, test.text)
		for n, want := range test.with {
			list, code := impl.BoxesWith(b, int64(n))
			wantList(t, test.text+": BoxesWith", list, code, want)
		}
		list, code := impl.TakenBoxes(b)
		wantList(t, test.text+": TakenBoxes", list, code, test.with[4])
		list, code = impl.FreeEdges(b)
		wantList(t, test.text+": FreeEdges", list, code, test.free)
	}
}

func TestBoxesAndEdgesAgainstSheets(t *testing.T) {
	for _, b := range manyBoxes() {
		text := boxesText(t, b)
		s := sheetOf(text)
		list, code := impl.TakenBoxes(b)
		wantList(t, text+": TakenBoxes", list, code, s.boxesWith(4))
		list, code = impl.FreeEdges(b)
		wantList(t, text+": FreeEdges", list, code, s.freeEdges())
		for n := range int64(5) {
			list, code = impl.BoxesWith(b, n)
			wantList(t, text+": BoxesWith", list, code, s.boxesWith(n))
		}
	}
}

func TestAddEdge(t *testing.T) {
	tests := []struct {
		text  string
		e     int64
		want  string
		taken int64
	}{
		// An edge that lies in one box makes none, or this one, taken.
		{"1x1:0000", 0, "1x1:1000", 0},
		{"1x1:1100", 2, "1x1:1110", 0},
		{"1x1:1110", 3, "1x1:1111", 1},
		{"2x1:1111101", 5, "2x1:1111111", 2},
		{"2x1:1010110", 1, "2x1:1110110", 0},
		// An edge that lies in two boxes makes none, the first, the second one, or both taken.
		{"2x1:0000000", 5, "2x1:0000010", 0},
		{"2x1:1111000", 5, "2x1:1111010", 0},
		{"2x1:1010100", 5, "2x1:1010110", 1},
		{"2x1:0101001", 5, "2x1:0101011", 1},
		{"2x1:1111100", 5, "2x1:1111110", 1},
		{"1x2:0001111", 1, "1x2:0101111", 0},
		{"1x2:1001111", 1, "1x2:1101111", 1},
		{"1x2:0011111", 1, "1x2:0111111", 1},
		{"1x2:1011111", 1, "1x2:1111111", 2},
		{"1x3:1011111111", 1, "1x3:1111111111", 2},
		{"3x1:1111111101", 8, "3x1:1111111111", 2},
		{"3x3:" + strings.Repeat("0", 24), 23, "3x3:" + strings.Repeat("0", 23) + "1", 0},
		{"3x3:" + strings.Repeat("1", 23) + "0", 23, "3x3:" + strings.Repeat("1", 24), 1},
		{"3x3:111110111111111111111111", 5, "3x3:111111111111111111111111", 2},
	}
	for _, test := range tests {
		next, taken, code := impl.AddEdge(boxes(t, test.text), test.e)
		wantValue(t, test.text+": AddEdge", next, code, boxes(t, test.want), impl.ErrNone)
		wantValue(t, test.text+": boxes of AddEdge", taken, code, test.taken, impl.ErrNone)
	}
}

func TestEdgesThatAreDrawnAlready(t *testing.T) {
	wantNoEdge(t, boxes(t, "1x1:1000"), 0, impl.ErrState)
	wantNoEdge(t, boxes(t, "2x1:1010110"), 5, impl.ErrState)
	for _, full := range fullBoxes() {
		for e := range edgesOfGrid()[[2]int64{full.Wide, full.High}] {
			wantNoEdge(t, full, e, impl.ErrState)
		}
	}
}

// AddEdge and SafeEdges for each edge of many positions.
func TestDrawnEdgesAgainstSheets(t *testing.T) {
	for _, b := range manyBoxes() {
		text := boxesText(t, b)
		s := sheetOf(text)
		var safe []int64
		for e, edge := range s.edges() {
			if s[edge[0]][edge[1]] == '1' {
				wantNoEdge(t, b, int64(e), impl.ErrState)
				continue
			}
			sheetNext, want := s.with(int64(e))
			next, taken, code := impl.AddEdge(b, int64(e))
			wantValue(t, text+": AddEdge", next, code, boxes(t, sheetNext.text()), impl.ErrNone)
			wantValue(t, text+": boxes of AddEdge", taken, code, want, impl.ErrNone)
			if s.filled(edge, 2) == 0 {
				safe = append(safe, int64(e))
			}
		}
		list, code := impl.SafeEdges(b)
		wantList(t, text+": SafeEdges", list, code, safe)
	}
}

func TestSafeEdges(t *testing.T) {
	tests := []struct {
		text string
		want []int64
	}{
		{"1x1:0000", []int64{0, 1, 2, 3}},
		{"1x1:0100", []int64{0, 2, 3}},
		// The box would get its third edge.
		{"1x1:1100", nil},
		// The box has three edges before, and four behind it.
		{"1x1:1110", []int64{3}},
		{"1x1:1111", nil},
		// A box with three edges stays as it is while edges of the other one are drawn.
		{"2x1:1010100", []int64{1, 3, 5, 6}},
		// The edge between a box with two edges and one with none, one, two or three.
		{"2x1:1010000", []int64{1, 3, 6}},
		{"2x1:1110000", []int64{3, 6}},
		{"2x1:1111000", nil},
		{"2x1:1111100", nil},
		{"2x1:1111001", nil},
		{"2x1:1111101", []int64{5}},
		{"2x1:1010110", []int64{1, 3, 6}},
		{"1x3:1001111111", nil},
		{"3x1:0000000000", upTo(0, 9)},
		{"3x3:" + strings.Repeat("0", 24), upTo(0, 23)},
		{"3x3:" + strings.Repeat("1", 24), nil},
		{"3x3:" + strings.Repeat("1", 12) + strings.Repeat("0", 12), nil},
	}
	for _, test := range tests {
		list, code := impl.SafeEdges(boxes(t, test.text))
		wantList(t, test.text+": SafeEdges", list, code, test.want)
	}
}

func TestReflectBoxes(t *testing.T) {
	tests := []struct {
		text string
		want [3]string
	}{
		{"1x1:1000", [3]string{"1x1:1000", "1x1:0100", "1x1:0010"}},
		{"1x1:0001", [3]string{"1x1:0010", "1x1:0001", "1x1:0100"}},
		{"2x1:1000100", [3]string{"2x1:0100001", "2x1:0010100", "1x2:1001000"}},
		{"3x1:1000001000", [3]string{"3x1:0010000001", "3x1:0001001000", "1x3:1000100000"}},
		{"1x3:0100010000", [3]string{"1x3:0100100000", "1x3:0010000001", "3x1:0001000100"}},
		{"2x3:01000000000100000", [3]string{"2x3:10000000000001000", "2x3:00000001000100000", "3x2:01000000000001000"}},
		{"3x2:00100000010000000", [3]string{"3x2:10000000000010000", "3x2:00000000100001000", "2x3:10000000000000100"}},
		{"3x3:010000000000010000000000", [3]string{"3x3:010000000000001000000000", "3x3:000000000010000000000100", "3x3:000100000000000010000000"}},
		{"3x3:" + strings.Repeat("0", 24), [3]string{"3x3:" + strings.Repeat("0", 24), "3x3:" + strings.Repeat("0", 24), "3x3:" + strings.Repeat("0", 24)}},
		{"1x3:" + strings.Repeat("1", 10), [3]string{"1x3:" + strings.Repeat("1", 10), "1x3:" + strings.Repeat("1", 10), "3x1:" + strings.Repeat("1", 10)}},
	}
	for _, test := range tests {
		for kind, want := range test.want {
			b, code := impl.ReflectBoxes(boxes(t, test.text), int64(kind))
			wantValue(t, test.text+": ReflectBoxes", b, code, boxes(t, want), impl.ErrNone)
		}
	}
}

func TestLeastBoxes(t *testing.T) {
	tests := []struct{ text, want string }{
		{"1x1:0000", "1x1:0000"},
		{"1x1:0001", "1x1:1000"},
		{"1x1:0011", "1x1:1100"},
		{"1x1:0101", "1x1:1010"},
		{"1x1:0111", "1x1:1110"},
		{"2x2:000000000001", "2x2:100000000000"},
		{"2x2:000000000010", "2x2:001000000000"},
		{"3x3:000000000000000000000001", "3x3:100000000000000000000000"},
		{"3x3:000000000000000001000000", "3x3:000010000000000000000000"},
		// Rows and columns of these are not exchanged, though it would make the number less.
		{"1x3:0000000001", "1x3:0000100000"},
		{"1x3:0000000100", "1x3:0000001000"},
		{"3x1:0000000001", "3x1:0000001000"},
		{"3x1:0000000010", "3x1:0000000100"},
		{"2x1:0000001", "2x1:0000100"},
		{"1x2:0000001", "1x2:0001000"},
		{"2x3:00000000000000001", "2x3:00000000100000000"},
		// Only both kinds together make the number the least one.
		{"2x1:0111001", "2x1:1110100"},
		{"1x3:" + strings.Repeat("1", 10), "1x3:" + strings.Repeat("1", 10)},
		{"3x3:" + strings.Repeat("1", 24), "3x3:" + strings.Repeat("1", 24)},
	}
	for _, test := range tests {
		b, code := impl.LeastBoxes(boxes(t, test.text))
		wantValue(t, test.text+": LeastBoxes", b, code, boxes(t, test.want), impl.ErrNone)
	}
}

func TestReflectionsAgainstSheets(t *testing.T) {
	for _, b := range manyBoxes() {
		text := boxesText(t, b)
		s := sheetOf(text)
		for kind := range int64(3) {
			got, code := impl.ReflectBoxes(b, kind)
			wantValue(t, text+": ReflectBoxes", got, code, boxes(t, s.reflected(kind).text()), impl.ErrNone)
		}
		forms := []sheet{s, s.reflected(0), s.reflected(1), s.reflected(0).reflected(1)}
		if b.Wide == b.High {
			for _, form := range forms[:4] {
				forms = append(forms, form.reflected(2))
			}
		}
		least := b
		for _, form := range forms {
			if other := boxes(t, form.text()); other.Edges < least.Edges {
				least = other
			}
		}
		got, code := impl.LeastBoxes(b)
		wantValue(t, text+": LeastBoxes", got, code, least, impl.ErrNone)
	}
}

// Two chains of three boxes, in the top row and in the bottom one: of the first one all boxes but two
// are taken, and these are left to the other player, who then has to open the second one.
const (
	twoChains      = "3x3:111111111111" + "0000" + "1111" + "0000"
	oneChainOpened = "3x3:111111111111" + "1000" + "1111" + "0000"
	twoBoxesLeft   = "3x3:111111111111" + "1100" + "1111" + "0000"
	twoBoxesSpared = "3x3:111111111111" + "1101" + "1111" + "0000"
)

func TestBoxesOfKnownScore(t *testing.T) {
	tests := []struct {
		text  string
		score int64
		best  []int64
		play  []int64
	}{
		{"1x1:0000", -1, []int64{0, 1, 2, 3}, []int64{0, 1, 2, 3}},
		{"1x1:0100", 1, []int64{0, 2, 3}, []int64{0, 2, 3}},
		{"1x1:1001", -1, []int64{1, 2}, []int64{1, 2}},
		{"1x1:1101", 1, []int64{2}, []int64{2}},
		{"1x1:1111", 0, nil, nil},
		{"2x1:1111101", 2, []int64{5}, []int64{5}},
		// Both boxes are taken one by one, or first the last edge of all is left to the other player.
		{"2x1:1111001", 2, []int64{5}, []int64{5, 4}},
		{"2x1:1111000", -2, []int64{4, 5, 6}, []int64{4, 5, 6}},
		// One box is taken, and no edge is left for another move.
		{"2x1:1010110", 1, []int64{1, 3, 6}, []int64{1, 3, 6}},
		{"3x1:1111110000", -3, []int64{6, 7, 8, 9}, []int64{6, 7, 8, 9}},
		{"3x1:1111111000", 3, []int64{7}, []int64{7, 8, 9}},
		{"1x3:1000111111", 3, []int64{1}, []int64{1, 2, 3}},
		{"1x3:0000111111", -3, []int64{0, 1, 2, 3}, []int64{0, 1, 2, 3}},
		{twoChains, -2, []int64{12, 13, 14, 15, 20, 21, 22, 23}, []int64{12, 13, 15, 14, 20, 21, 22, 23}},
		{oneChainOpened, 2, []int64{13}, []int64{13, 15, 14, 20, 21, 22, 23}},
		{twoBoxesLeft, 1, []int64{15}, []int64{15, 14, 20, 21, 22, 23}},
		{twoBoxesSpared, -1, []int64{14}, []int64{14, 20, 21, 22, 23}},
		{"3x3:" + strings.Repeat("1", 24), 0, nil, nil},
	}
	for _, test := range tests {
		b := boxes(t, test.text)
		score, code := impl.NetScore(b)
		wantValue(t, test.text+": NetScore", score, code, test.score, impl.ErrNone)
		list, code := impl.BestEdges(b)
		wantList(t, test.text+": BestEdges", list, code, test.best)
		list, code = impl.PlayBoxes(b)
		wantList(t, test.text+": PlayBoxes", list, code, test.play)
	}
}

// NetScore, BestEdges and PlayBoxes against plays of all kinds.
func TestScoresAgainstSheets(t *testing.T) {
	known := map[string]int64{}
	for _, b := range boxesToSearch(t) {
		text := boxesText(t, b)
		s := sheetOf(text)
		score, code := impl.NetScore(b)
		wantValue(t, text+": NetScore", score, code, s.score(known), impl.ErrNone)
		list, code := impl.BestEdges(b)
		wantList(t, text+": BestEdges", list, code, s.best(known))
		var play []int64
		for best := s.best(known); len(best) > 0; best = s.best(known) {
			play = append(play, best[0])
			s, _ = s.with(best[0])
		}
		list, code = impl.PlayBoxes(b)
		wantList(t, text+": PlayBoxes", list, code, play)
	}
}

// best returns the best edges, by playing all plays out.
func (s sheet) best(known map[string]int64) []int64 {
	var best []int64
	for _, e := range s.freeEdges() {
		if s.gain(e, known) == s.score(known) {
			best = append(best, e)
		}
	}
	return best
}

// Exactly MaxBest edges that are not drawn, and one more.
func TestScoresOfManyEdges(t *testing.T) {
	for _, text := range []string{
		"2x2:000000000000",
		"2x3:11111000000000000",
		"3x2:00000000000011111",
		"3x3:111111111111000000000000",
		"3x3:000000000000111111111111",
		"3x3:010101010101010101010101",
	} {
		b := boxes(t, text)
		s := sheetOf(text)
		score, code := impl.NetScore(b)
		wantValue(t, text+": NetScore", score, code, s.score(map[string]int64{}), impl.ErrNone)
		list, code := impl.BestEdges(b)
		wantList(t, text+": BestEdges", list, code, s.best(map[string]int64{}))
		list, code = impl.PlayBoxes(b)
		if code != impl.ErrNone || len(list) != impl.MaxBest {
			t.Errorf("PlayBoxes(%q) = %v, code %d", text, list, code)
		}
	}
	for _, text := range []string{
		"2x3:01111000000000000",
		"3x2:00000000000001111",
		"3x2:00000000000000000",
		"3x3:111111111101000000000000",
		"3x3:000000000000111111111110",
		"3x3:000101010101010101010101",
		"3x3:000000000000000000000000",
	} {
		b := boxes(t, text)
		score, code := impl.NetScore(b)
		wantValue(t, text+": NetScore", score, code, 0, impl.ErrLimit)
		list, code := impl.BestEdges(b)
		wantNoList(t, text+": BestEdges", list, code, impl.ErrLimit)
		list, code = impl.PlayBoxes(b)
		wantNoList(t, text+": PlayBoxes", list, code, impl.ErrLimit)
	}
}

// netScores asks for the net score of each position only once.
type netScores map[impl.Boxes]int64

func (n netScores) of(t *testing.T, b impl.Boxes) int64 {
	t.Helper()
	if score, ok := n[b]; ok {
		return score
	}
	score, code := impl.NetScore(b)
	if code != impl.ErrNone {
		t.Fatalf("NetScore(%v): code %d", b, code)
	}
	n[b] = score
	return score
}

// Promise 3, its first part.
func TestNetScoresOfReflectedBoxesAreEqual(t *testing.T) {
	scores := netScores{}
	for _, b := range boxesToSearch(t) {
		text := boxesText(t, b)
		for kind := range int64(3) {
			reflected, code := impl.ReflectBoxes(b, kind)
			wantValue(t, text+": NetScore reflected", scores.of(t, reflected), code, scores.of(t, b), impl.ErrNone)
		}
		least, code := impl.LeastBoxes(b)
		wantValue(t, text+": NetScore of the least", scores.of(t, least), code, scores.of(t, b), impl.ErrNone)
	}
}

// Promise 3, its second part: edges that are best keep the net score, and all others make it less.
func TestBestEdgesKeepNetScores(t *testing.T) {
	scores := netScores{}
	for _, b := range boxesToSearch(t) {
		want := scores.of(t, b)
		best, code := impl.BestEdges(b)
		free, _ := impl.FreeEdges(b)
		if code != impl.ErrNone || (len(best) > 0) != (len(free) > 0) {
			t.Errorf("%s: best are %v of %v, code %d", boxesText(t, b), best, free, code)
		}
		for _, e := range free {
			next, taken, code := impl.AddEdge(b, e)
			score := taken + scores.of(t, next)
			if taken == 0 {
				score = -scores.of(t, next)
			}
			if code != impl.ErrNone || score > want || (score == want) != slices.Contains(best, e) {
				t.Errorf("%s: the edge %d makes %d of %d, best are %v", boxesText(t, b), e, score, want, best)
			}
		}
	}
}

// Plays draw all edges, each one once, and bring the player who begins the net score.
func TestPlaysOfBoxesDrawAllEdges(t *testing.T) {
	for _, b := range boxesToSearch(t) {
		text := boxesText(t, b)
		want, _ := impl.NetScore(b)
		free, _ := impl.FreeEdges(b)
		play, code := impl.PlayBoxes(b)
		wantList(t, text+": sorted edges of PlayBoxes", slices.Sorted(slices.Values(play)), code, free)
		net, sign := int64(0), int64(1)
		for _, e := range play {
			best, _ := impl.BestEdges(b)
			if len(best) == 0 || best[0] != e {
				t.Errorf("%s: the play %v draws %d where %v are best", text, play, e, best)
			}
			next, taken, _ := impl.AddEdge(b, e)
			net += sign * taken
			if taken == 0 {
				sign = -sign
			}
			b = next
		}
		wantValue(t, text+": net score of PlayBoxes", net, code, want, impl.ErrNone)
	}
}

// Promise 15.
func TestOneBoxIsWonLikeAHeap(t *testing.T) {
	heap, code := impl.HeapGame(4, []int64{1})
	won, codeToo := impl.WonPlaces(heap)
	if code != impl.ErrNone || codeToo != impl.ErrNone {
		t.Fatalf("HeapGame: code %d; WonPlaces: code %d", code, codeToo)
	}
	for edges := range int64(16) {
		b := impl.Boxes{Wide: 1, High: 1, Edges: edges}
		free, _ := impl.FreeEdges(b)
		place := 4 - len(free)
		score, code := impl.NetScore(b)
		wantValue(t, boxesText(t, b)+": won", score > 0, code, won[place], impl.ErrNone)
		want := int64(-1)
		switch {
		case place == 4:
			want = 0
		case won[place]:
			want = 1
		}
		wantValue(t, boxesText(t, b)+": NetScore", score, code, want, impl.ErrNone)
		play, code := impl.PlayBoxes(b)
		moves, _ := impl.PlayFrom(heap, int64(place))
		wantValue(t, boxesText(t, b)+": edges of PlayBoxes", len(play), code, len(moves), impl.ErrNone)
	}
}

func TestBoxesText(t *testing.T) {
	tests := map[string]impl.Boxes{
		"1x1:0000":                        {Wide: 1, High: 1},
		"1x1:1000":                        {Wide: 1, High: 1, Edges: 1},
		"1x1:0001":                        {Wide: 1, High: 1, Edges: 8},
		"1x1:1111":                        {Wide: 1, High: 1, Edges: 15},
		"2x1:1010110":                     {Wide: 2, High: 1, Edges: 1 + 4 + 16 + 32},
		"1x2:0100001":                     {Wide: 1, High: 2, Edges: 2 + 64},
		"1x3:1100000000":                  {Wide: 1, High: 3, Edges: 3},
		"3x1:0000000011":                  {Wide: 3, High: 1, Edges: 256 + 512},
		"2x3:00000000000000001":           {Wide: 2, High: 3, Edges: 1 << 16},
		"3x2:10000000000000001":           {Wide: 3, High: 2, Edges: 1<<16 + 1},
		"3x3:" + strings.Repeat("0", 24):  {Wide: 3, High: 3},
		"3x3:" + strings.Repeat("1", 24):  {Wide: 3, High: 3, Edges: 1<<24 - 1},
		"3x3:" + strings.Repeat("01", 12): {Wide: 3, High: 3, Edges: 0xAAAAAA},
	}
	for want, b := range tests {
		text, code := impl.BoxesText(b)
		wantValue(t, "BoxesText", text, code, want, impl.ErrNone)
		again, code := impl.ParseBoxes(want)
		wantValue(t, "ParseBoxes", again, code, b, impl.ErrNone)
	}
}

func TestBoxesComeBackFromTheirTexts(t *testing.T) {
	for _, b := range manyBoxes() {
		again, code := impl.ParseBoxes(boxesText(t, b))
		wantValue(t, "ParseBoxes", again, code, b, impl.ErrNone)
	}
}

func TestParseBoxesSyntax(t *testing.T) {
	bad := []string{
		// Parts are missing, or there are too many.
		"", ":", "x", "x:", "1", "1x", "1x1", "1x1:", "x1:0000", "1x:0000", ":0000", "0000", "1:0000", "11:0000", "1x10000",
		"1x1x1:0000", "1x1::0000", "1x1:0000:", "1x1:00:00", "x1x1:0000", "1x1x:0000", "1xx1:0000", "1x1:0000,", "1x1:0000 1x1:0000",
		// Other signs.
		"1x1:0002", "1x1:000a", "1x1:-000", "1x1:+000", "1x1:0 00", "1x1:0000 ", " 1x1:0000", "1 x1:0000", "1x 1:0000", "1x1: 0000",
		"1x1:0000\n", "1x1:000\n", "1x1:000\x00", "1x1:000\x01", "1x1:000\xb1", "1x1:00０", "1x1:0x00", "1y1:0000", "1X1:0000", "1*1:0000",
		"1x1;0000", "1x1.0000", "ax1:0000", "1xb:0000", "１x1:0000", "1x1:OOOO", "1x1:.0.0",
		// Too few, or too many.
		"1x1:000", "1x1:0", "1x1:00000", "1x1:11111", "1x1:00001", "1x1:10000", "2x1:1111", "2x1:000000", "2x1:00000000",
		"1x2:000000", "1x2:00000000", "1x3:000000000", "3x1:00000000000", "2x2:0000000", "2x3:0000000000000000",
		"3x3:" + strings.Repeat("0", 23), "3x3:" + strings.Repeat("1", 25), "3x3:" + strings.Repeat("0", 24) + "1",
		"3x3:" + strings.Repeat("1", 63), "3x3:" + strings.Repeat("1", 64), "3x3:" + strings.Repeat("0", 64) + "1", "3x3:" + strings.Repeat("1", 5000),
		// Superfluous zeros and signs.
		"01x1:0000", "1x01:0000", "001x001:0000", "+1x1:0000", "1x+1:0000", "1.0x1:0000", "0x1x1:0000", "1_x1:0000",
		// Sizes of no grid.
		"0x1:0", "1x0:0", "0x0:", "4x1:" + strings.Repeat("0", 13), "1x4:" + strings.Repeat("0", 13), "4x4:" + strings.Repeat("0", 40),
		"10x1:0000", "-1x1:0000", "1x-1:0000", "-1x-1:", "-0x1:0", "9223372036854775807x1:0000", "18446744073709551617x1:0000",
	}
	for _, text := range bad {
		b, code := impl.ParseBoxes(text)
		wantValue(t, "ParseBoxes of "+strconv.Quote(text), b, code, impl.Boxes{}, impl.ErrSyntax)
	}
	// A text with one byte changed, left out or added is one of another position, or of none.
	for _, text := range []string{"1x1:0110", "3x2:01101001100101101"} {
		for changed := range changedTexts(text) {
			wantTextOrNone(t, changed)
		}
	}
}

// wantTextOrNone checks that a text is read exactly if it is the text of a position.
func wantTextOrNone(t *testing.T, text string) {
	t.Helper()
	b, code := impl.ParseBoxes(text)
	if !isTextOfBoxes(text) {
		wantValue(t, "ParseBoxes of "+strconv.Quote(text), b, code, impl.Boxes{}, impl.ErrSyntax)
	} else if code != impl.ErrNone || boxesText(t, b) != text {
		t.Errorf("ParseBoxes(%q) = %v, code %d", text, b, code)
	}
}

// isTextOfBoxes reports whether a text begins like one of a grid, and has a sign for each edge.
func isTextOfBoxes(text string) bool {
	for size, edges := range edgesOfGrid() {
		signs, ok := strings.CutPrefix(text, boxesName(impl.Boxes{Wide: size[0], High: size[1]})+":")
		if ok {
			return int64(len(signs)) == edges && strings.Trim(signs, "01") == ""
		}
	}
	return false
}

// The same call has the same result, whatever is done to the results of calls before it.
func TestListsOfBoxesAreNew(t *testing.T) {
	b := boxes(t, "2x1:1010100")
	for range 3 {
		lists := map[string]struct {
			of   func() ([]int64, int64)
			want []int64
		}{
			"EdgesOfBox": {func() ([]int64, int64) { return impl.EdgesOfBox(b, 1) }, []int64{1, 3, 5, 6}},
			"TakenBoxes": {func() ([]int64, int64) { return impl.TakenBoxes(boxes(t, "2x1:1111111")) }, []int64{0, 1}},
			"BoxesWith":  {func() ([]int64, int64) { return impl.BoxesWith(b, 3) }, []int64{0}},
			"FreeEdges":  {func() ([]int64, int64) { return impl.FreeEdges(b) }, []int64{1, 3, 5, 6}},
			"SafeEdges":  {func() ([]int64, int64) { return impl.SafeEdges(b) }, []int64{1, 3, 5, 6}},
			"BestEdges":  {func() ([]int64, int64) { return impl.BestEdges(boxes(t, "2x1:1111000")) }, []int64{4, 5, 6}},
			"PlayBoxes":  {func() ([]int64, int64) { return impl.PlayBoxes(boxes(t, "2x1:1111000")) }, []int64{4, 5, 6}},
		}
		for name, list := range lists {
			got, code := list.of()
			wantList(t, name, got, code, list.want)
			spoil(got)
		}
	}
}
