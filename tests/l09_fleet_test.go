package tests

import (
	"bytes"
	"fmt"
	"maps"
	"slices"
	"strconv"
	"strings"
	"sync"
	"testing"

	"loop.example/g01388/impl"
)

// chart is the drawing of a fleet, as its text. It is a second way to what lists of placements tell.
type chart string

// signs returns the signs of all cells.
func (c chart) signs() []byte { return []byte(strings.ReplaceAll(string(c), "/", "")) }

// with draws a ship on the chart, if there is water at all its cells.
func (c chart) with(letter byte, at, step square, length int) (chart, bool) {
	rows := bytes.Split([]byte(c), []byte{'/'})
	for range length {
		if at.y >= len(rows) || at.x >= len(rows[0]) || rows[at.y][at.x] != '.' {
			return "", false
		}
		rows[at.y][at.x] = letter
		at = at.plus(step)
	}
	return chart(bytes.Join(rows, []byte{'/'})), true
}

// placement returns the number of a ship: the digits are written from the last cell to the first.
func (c chart) placement(letter byte) int64 {
	digits := c.signs()
	slices.Reverse(digits)
	for k, sign := range digits {
		digits[k] = "01"[bytes.Count([]byte{sign}, []byte{letter})]
	}
	placement, _ := strconv.ParseInt(string(digits), 2, 64)
	return placement
}

// fleet returns the list of the placements.
func (c chart) fleet() []int64 {
	var fleet []int64
	for letter := byte('a'); strings.IndexByte(string(c), letter) >= 0; letter++ {
		fleet = append(fleet, c.placement(letter))
	}
	return fleet
}

// cells returns the numbers of the cells that ships have.
func (c chart) cells() []int64 {
	return slices.DeleteFunc(upTo(0, int64(len(c.signs())-1)), func(cell int64) bool { return c.signs()[cell] == '.' })
}

// answers crosses out one cell behind the other, and looks for what is left of each ship.
func (c chart) answers(cells []int64) []int64 {
	left := c.signs()
	var answers []int64
	for _, cell := range cells {
		sign := left[cell]
		left[cell] = 'x'
		if sign == '.' {
			answers = append(answers, 0)
		} else if bytes.IndexByte(left, sign) >= 0 {
			answers = append(answers, 1)
		} else {
			answers = append(answers, 2)
		}
	}
	return answers
}

// shots returns the shots at some cells with their answers.
func (c chart) shots(cells []int64) []impl.Shot {
	var shots []impl.Shot
	for k, answer := range c.answers(cells) {
		shots = append(shots, impl.Shot{Cell: cells[k], Answer: answer})
	}
	return shots
}

// cellsShot returns the cells of shots.
func cellsShot(shots []impl.Shot) []int64 {
	var cells []int64
	for _, shot := range shots {
		cells = append(cells, shot.Cell)
	}
	return cells
}

func (c chart) agrees(shots []impl.Shot) bool { return slices.Equal(c.shots(cellsShot(shots)), shots) }

// waters is a sea with the charts of some of its fleets, or of all, in order.
type waters struct {
	sea    impl.Sea
	charts []chart
}

func seaOf(wide, high int64, ships ...int64) impl.Sea {
	return impl.Sea{Wide: wide, High: high, Ships: ships}
}

// watersOf returns a sea with all its fleets.
func watersOf(sea impl.Sea) waters {
	charts := []chart{chart(strings.Repeat("/"+strings.Repeat(".", int(sea.Wide)), int(sea.High))[1:])}
	for k, length := range sea.Ships {
		more := map[chart]bool{}
		for _, c := range charts {
			for place := range int(sea.Wide * sea.High) {
				for _, step := range []square{{0, 1}, {1, 0}} {
					letter := 'a' + byte(k)
					next, ok := c.with(letter, square{place % int(sea.Wide), place / int(sea.Wide)}, step, int(length))
					if ok && (k == 0 || sea.Ships[k-1] != length || next.placement(letter-1) < next.placement(letter)) {
						more[next] = true
					}
				}
			}
		}
		charts = slices.Collect(maps.Keys(more))
	}
	fleets := map[chart][]int64{}
	for _, c := range charts {
		fleets[c] = c.fleet()
	}
	slices.SortFunc(charts, func(a, b chart) int { return slices.Compare(fleets[a], fleets[b]) })
	return waters{sea, charts}
}

// cells returns the numbers of all cells.
func (w waters) cells() []int64 { return upTo(0, w.sea.Wide*w.sea.High-1) }

// agreeing returns the waters with the fleets that agree with shots.
func (w waters) agreeing(shots []impl.Shot) waters {
	return waters{w.sea, slices.DeleteFunc(slices.Clone(w.charts), func(c chart) bool { return !c.agrees(shots) })}
}

// shares returns for each cell how many fleets have it.
func (w waters) shares() []int64 {
	shares := repeat(0, len(w.cells()))
	for _, c := range w.charts {
		for cell, sign := range c.signs() {
			if sign != '.' {
				shares[cell]++
			}
		}
	}
	return shares
}

// certain returns the cells without shots that all fleets have, and those that none has.
func (w waters) certain(shots []impl.Shot) ([]int64, []int64) {
	var all, none []int64
	for cell, share := range w.shares() {
		if slices.Contains(cellsShot(shots), int64(cell)) {
			continue
		}
		if share == int64(len(w.charts)) {
			all = append(all, int64(cell))
		}
		if share == 0 {
			none = append(none, int64(cell))
		}
	}
	return all, none
}

// best returns the first one of the cells without shots that most fleets have, -1 if there is none,
// and how many there are.
func (w waters) best(shots []impl.Shot) (int64, int) {
	best, count := int64(-1), 0
	shares := w.shares()
	for cell, share := range shares {
		if slices.Contains(cellsShot(shots), int64(cell)) {
			continue
		}
		if best < 0 || share > shares[best] {
			best, count = int64(cell), 0
		}
		if share == shares[best] {
			count++
		}
	}
	return best, count
}

// hunt returns the cells of the shots at a fleet.
func (w waters) hunt(c chart) []int64 {
	var cells []int64
	for {
		missing := slices.DeleteFunc(c.cells(), func(cell int64) bool { return slices.Contains(cells, cell) })
		if len(missing) == 0 {
			return cells
		}
		w = w.agreeing(c.shots(cells))
		best, _ := w.best(c.shots(cells))
		cells = append(cells, best)
	}
}

// allShips returns all lists of the lengths of ships.
func allShips() [][]int64 {
	var lists [][]int64
	for first := int64(1); first <= 5; first++ {
		lists = append(lists, []int64{first})
		for second := int64(1); second <= first; second++ {
			lists = append(lists, []int64{first, second})
			for third := int64(1); third <= second; third++ {
				lists = append(lists, []int64{first, second, third})
			}
		}
	}
	return lists
}

// allSeas returns all seas.
func allSeas() []impl.Sea {
	var seas []impl.Sea
	for wide := int64(1); wide <= 5; wide++ {
		for high := int64(1); high <= 5; high++ {
			for _, ships := range allShips() {
				seas = append(seas, seaOf(wide, high, ships...))
			}
		}
	}
	return seas
}

// greatSeas returns some of the seas of the most cells.
func greatSeas() []impl.Sea {
	return []impl.Sea{
		seaOf(5, 5, 1), seaOf(5, 5, 5), seaOf(5, 5, 1, 1), seaOf(5, 5, 5, 5), seaOf(5, 5, 5, 1), seaOf(5, 5, 5, 4), seaOf(5, 5, 3, 2), seaOf(5, 5, 2, 2),
		seaOf(5, 5, 5, 5, 5), seaOf(5, 5, 5, 5, 1), seaOf(5, 5, 5, 5, 2), seaOf(5, 5, 5, 5, 4), seaOf(5, 5, 5, 4, 4), seaOf(5, 5, 4, 4, 4), seaOf(5, 5, 1, 1, 1), seaOf(5, 5, 3, 3, 3), seaOf(5, 5, 3, 2, 1),
		seaOf(5, 5, 3, 3), seaOf(4, 5, 5, 5), seaOf(4, 5, 5, 4, 2), seaOf(4, 5, 4, 4, 3), seaOf(5, 4, 5, 5, 3), seaOf(5, 4, 5, 3, 1), seaOf(5, 4, 4, 4, 3), seaOf(5, 4, 1, 1),
	}
}

// manyWaters returns all seas of at most 15 cells, and some greater ones, with their fleets.
var manyWaters = sync.OnceValue(func() []waters {
	seas := slices.DeleteFunc(allSeas(), func(sea impl.Sea) bool { return sea.Wide*sea.High > 15 })
	var many []waters
	for _, sea := range append(seas, greatSeas()...) {
		many = append(many, watersOf(sea))
	}
	return many
})

// some returns a few of the charts, the first one and the last one among them.
func (w waters) some(d *dice, count int) []chart {
	if len(w.charts) <= count {
		return w.charts
	}
	charts := []chart{w.charts[0], w.charts[len(w.charts)-1]}
	for len(charts) < count {
		charts = append(charts, w.charts[d.below(int64(len(w.charts)))])
	}
	return charts
}

// badSeas returns some of each kind of what is not a sea.
func badSeas() map[string]impl.Sea {
	bad := map[string]impl.Sea{
		"zero value": {}, "no list of ships": seaOf(3, 2), "no ships": {Wide: 3, High: 2, Ships: []int64{}}, "no ships on one cell": seaOf(1, 1), "no ships on the greatest sea": seaOf(5, 5),
		"no sides": seaOf(0, 0, 1), "sides changed for ships": seaOf(6, 6, 6),
	}
	for _, n := range []int64{0, 6, -1, 7, -5, 25, 256, 256 + 3, 1 << 32, 1<<32 + 3, -1<<32 + 3, leastInt, leastInt + 3, greatestInt} {
		for _, side := range []int64{1, 3, 5, n} {
			bad[fmt.Sprint(n, " wide and high ", side)] = seaOf(n, side, 1)
			bad[fmt.Sprint(side, " wide and high ", n)] = seaOf(side, n, 2, 1)
		}
		for _, ships := range [][]int64{{n}, {n, 1}, {5, n}, {3, n}, {n, n}, {n, 2, 1}, {5, n, 1}, {5, 3, n}, {1, 1, n}, {n, n, n}} {
			bad[fmt.Sprint("ships ", ships)] = seaOf(5, 4, ships...)
		}
	}
	for _, ships := range [][]int64{{1, 2}, {4, 5}, {1, 5}, {1, 2, 3}, {3, 4, 5}, {2, 1, 2}, {3, 1, 2}, {2, 3, 1}, {1, 1, 2}, {1, 2, 2}, {1, 2, 1}, {5, 4, 5}, {4, 5, 4}} {
		bad[fmt.Sprint("growing ships ", ships)] = seaOf(5, 5, ships...)
	}
	for _, ships := range [][]int64{{1, 1, 1, 1}, {4, 3, 2, 1}, {5, 5, 5, 5}, {2, 1, 1, 1}, {3, 2, 1, 0}, {1, 1, 1, 2}, repeat(1, 5), repeat(2, 100), repeat(0, 4)} {
		bad[fmt.Sprint(len(ships), " ships ", ships)] = seaOf(5, 5, ships...)
	}
	return bad
}

func TestSeaConstants(t *testing.T) {
	if impl.MaxSeaSide != 5 || impl.MaxShips != 3 {
		t.Errorf("MaxSeaSide, MaxShips are %d, %d", impl.MaxSeaSide, impl.MaxShips)
	}
}

func TestIsSea(t *testing.T) {
	for _, sea := range allSeas() {
		if !impl.IsSea(sea) {
			t.Errorf("%v is a sea", sea)
		}
	}
	for name, bad := range badSeas() {
		if impl.IsSea(bad) {
			t.Errorf("%s: %v is no sea", name, bad)
		}
	}
}

// All lists of up to four lengths, and of those one too small or too great.
func TestIsSeaByShips(t *testing.T) {
	lists := [][]int64{nil}
	seas := 0
	for k := 0; k < len(lists); k++ {
		if len(lists[k]) < 4 {
			for length := int64(0); length <= 6; length++ {
				lists = append(lists, append(slices.Clone(lists[k]), length))
			}
		}
		want := slices.ContainsFunc(allShips(), func(ships []int64) bool { return slices.Equal(ships, lists[k]) })
		if impl.IsSea(seaOf(2, 3, lists[k]...)) != want {
			t.Errorf("IsSea with ships %v is not %v", lists[k], want)
		}
		if want {
			seas++
		}
	}
	if seas != 55 || len(lists) != 1+7+49+343+2401 {
		t.Errorf("%d of %d lists are ships", seas, len(lists))
	}
}

// wantNothingOfSea checks that the functions of a sea, and of a length and a text with it, return an
// error, and zero values beside it.
func wantNothingOfSea(t *testing.T, what string, sea impl.Sea, n int64, text string, want int64) {
	t.Helper()
	placements, code := impl.PlacementsOf(sea, n)
	wantNoList(t, what+": PlacementsOf", placements, code, want)
	count, code := impl.CountFleets(sea)
	wantValue(t, what+": CountFleets", count, code, 0, want)
	fleets, code := impl.FleetList(sea)
	wantNoList(t, what+": FleetList", fleets, code, want)
	fleet, code := impl.ParseFleet(sea, text)
	wantNoList(t, what+": ParseFleet", fleet, code, want)
}

// wantNothingOfFleet checks that the functions of a fleet, and of cells or shots with it, return an
// error, and zero values beside it.
func wantNothingOfFleet(t *testing.T, what string, sea impl.Sea, fleet, cells []int64, shots []impl.Shot, want int64) {
	t.Helper()
	what = fmt.Sprint(what, ", fleet ", fleet)
	list, code := impl.CellsOfFleet(sea, fleet)
	wantNoList(t, what+": CellsOfFleet", list, code, want)
	list, code = impl.HuntFleet(sea, fleet)
	wantNoList(t, what+": HuntFleet", list, code, want)
	text, code := impl.FleetText(sea, fleet)
	wantValue(t, what+": FleetText", text, code, "", want)
	wantNothingOfAnswers(t, what, sea, fleet, cells, shots, want)
}

func wantNothingOfAnswers(t *testing.T, what string, sea impl.Sea, fleet, cells []int64, shots []impl.Shot, want int64) {
	t.Helper()
	answers, code := impl.AnswersOf(sea, fleet, cells)
	wantNoList(t, fmt.Sprint(what, ": AnswersOf ", cells), answers, code, want)
	agrees, code := impl.Agrees(sea, fleet, shots)
	wantValue(t, fmt.Sprint(what, ": Agrees ", shots), agrees, code, false, want)
}

// wantNothingOfShots checks that the functions of shots return an error, and zero values beside it.
func wantNothingOfShots(t *testing.T, what string, sea impl.Sea, shots []impl.Shot, want int64) {
	t.Helper()
	count, code := impl.CountAgreeing(sea, shots)
	wantValue(t, what+": CountAgreeing", count, code, 0, want)
	shares, code := impl.SharesOf(sea, shots)
	wantNoList(t, what+": SharesOf", shares, code, want)
	wantNothingCertain(t, what, sea, shots, want)
	wantNoBest(t, what, sea, shots, want)
}

func wantNothingCertain(t *testing.T, what string, sea impl.Sea, shots []impl.Shot, want int64) {
	t.Helper()
	all, none, code := impl.CertainCells(sea, shots)
	wantNoList(t, what+": CertainCells, the first list", all, code, want)
	wantNoList(t, what+": CertainCells, the second list", none, code, want)
}

func wantNoBest(t *testing.T, what string, sea impl.Sea, shots []impl.Shot, want int64) {
	t.Helper()
	best, code := impl.BestCell(sea, shots)
	wantValue(t, what+": BestCell", best, code, 0, want)
}

// ErrInvalid comes before all other errors, whatever is beside the sea.
func TestSeasInvalidComesFirst(t *testing.T) {
	for name, bad := range badSeas() {
		for _, n := range []int64{1, 2, 5, 0, 6, -1, leastInt, greatestInt} {
			for _, text := range []string{"a", "aa/..", "", "x"} {
				wantNothingOfSea(t, name, bad, n, text, impl.ErrInvalid)
			}
			for _, list := range [][]int64{nil, {n}, {1, n}, {n, 2, 1}, {1, 2, 4}} {
				is, code := impl.IsFleet(bad, list)
				wantValue(t, name+": IsFleet", is, code, false, impl.ErrInvalid)
				wantNothingOfFleet(t, name, bad, list, list, []impl.Shot{{Cell: n, Answer: n}}, impl.ErrInvalid)
			}
			for _, shots := range [][]impl.Shot{nil, {}, {{Cell: n}}, {{Answer: n}}, {{Cell: n}, {Cell: n}}} {
				wantNothingOfShots(t, name, bad, shots, impl.ErrInvalid)
			}
		}
	}
}

func TestPlacementsByHand(t *testing.T) {
	tests := []struct {
		wide, high, n int64
		want          string
	}{
		{1, 1, 1, "1"}, {1, 1, 2, ""}, {1, 1, 5, ""},
		{5, 1, 1, "1 2 4 8 16"}, {5, 1, 2, "3 6 12 24"}, {5, 1, 3, "7 14 28"}, {5, 1, 4, "15 30"}, {5, 1, 5, "31"},
		{1, 5, 1, "1 2 4 8 16"}, {1, 5, 2, "3 6 12 24"}, {1, 5, 3, "7 14 28"}, {1, 5, 4, "15 30"}, {1, 5, 5, "31"},
		{2, 1, 1, "1 2"}, {2, 1, 2, "3"}, {2, 1, 3, ""}, {4, 1, 5, ""}, {1, 4, 5, ""}, {4, 4, 5, ""}, {2, 2, 3, ""},
		{2, 2, 1, "1 2 4 8"}, {2, 2, 2, "3 5 10 12"},
		{2, 3, 1, "1 2 4 8 16 32"}, {2, 3, 2, "3 5 10 12 20 40 48"}, {2, 3, 3, "21 42"},
		{3, 2, 2, "3 6 9 18 24 36 48"}, {3, 2, 3, "7 56"}, {3, 3, 3, "7 56 73 146 292 448"},
		// Only in rows, and only in columns.
		{5, 2, 3, "7 14 28 224 448 896"}, {5, 2, 5, "31 992"}, {2, 5, 5, "341 682"}, {2, 5, 4, "85 170 340 680"}, {4, 3, 4, "15 240 3840"},
		{5, 5, 5, "31 992 31744 1015808 1082401 2164802 4329604 8659208 17318416 32505856"},
	}
	for _, test := range tests {
		for _, ships := range [][]int64{{1}, {5, 5, 5}, {3, 2}} {
			placements, code := impl.PlacementsOf(seaOf(test.wide, test.high, ships...), test.n)
			wantList(t, fmt.Sprint("PlacementsOf ", test.wide, test.high, ships, test.n), placements, code, numbers(test.want))
		}
	}
	for n, want := range []int{25, 40, 30, 20, 10} {
		if placements := first(impl.PlacementsOf(seaOf(5, 5, 1), int64(n)+1)); len(placements) != want {
			t.Errorf("%d placements of the length %d", len(placements), n+1)
		}
	}
}

// The placements are the fleets of one ship.
func TestPlacementsAgainstCharts(t *testing.T) {
	want := map[[3]int64][]int64{}
	for _, sea := range allSeas() {
		if len(sea.Ships) == 1 {
			for _, c := range watersOf(sea).charts {
				size := [3]int64{sea.Wide, sea.High, sea.Ships[0]}
				want[size] = append(want[size], c.placement('a'))
			}
		}
	}
	for _, sea := range allSeas() {
		for n := int64(1); n <= 5; n++ {
			placements, code := impl.PlacementsOf(sea, n)
			wantList(t, fmt.Sprint("PlacementsOf ", sea, n), placements, code, want[[3]int64{sea.Wide, sea.High, n}])
		}
	}
}

func TestPlacementLengthsOutOfRange(t *testing.T) {
	for _, sea := range append(allSeas(), greatSeas()...) {
		for _, n := range []int64{0, 6, -1, 7, -5, 25, 256 + 1, 1<<32 + 1, leastInt, leastInt + 1, greatestInt} {
			placements, code := impl.PlacementsOf(sea, n)
			wantNoList(t, fmt.Sprint("PlacementsOf ", sea, n), placements, code, impl.ErrRange)
		}
	}
}

// Promise 17: placements of ships are lines of the grid, those that go along a row or a column.
func TestPlacementsAreLinesOfTheGrid(t *testing.T) {
	looked := 0
	for _, sea := range allSeas() {
		if sea.Wide*sea.High > 16 || len(sea.Ships) > 1 {
			continue
		}
		n := sea.Ships[0]
		grid, code := impl.GridBoard(sea.Wide, sea.High, n)
		if code != impl.ErrNone {
			t.Errorf("GridBoard %v returns the code %d", sea, code)
		}
		straight := slices.DeleteFunc(slices.Clone(grid.Lines), func(line int64) bool {
			nodes := listed(line)
			last := len(nodes) - 1
			return last > 0 && nodes[0]/int(sea.Wide) != nodes[last]/int(sea.Wide) && nodes[0]%int(sea.Wide) != nodes[last]%int(sea.Wide)
		})
		placements, code := impl.PlacementsOf(sea, n)
		wantList(t, fmt.Sprint("PlacementsOf ", sea, n), placements, code, straight)
		if len(straight) > 0 && len(straight) < len(grid.Lines) {
			looked++
		}
	}
	if looked < 10 {
		t.Errorf("only %d grids have straight lines and others", looked)
	}
}

func wantIsFleet(t *testing.T, sea impl.Sea, fleet []int64, want bool) {
	t.Helper()
	is, code := impl.IsFleet(sea, fleet)
	wantValue(t, fmt.Sprint("IsFleet ", sea, fleet), is, code, want, impl.ErrNone)
	if !want {
		wantNothingOfFleet(t, fmt.Sprint(sea), sea, fleet, nil, nil, impl.ErrRange)
	}
}

func TestIsFleetByHand(t *testing.T) {
	tests := []struct {
		sea    impl.Sea
		is, no string // fleets, and lists that are none, with `,` between them
	}{
		{seaOf(1, 1, 1), "1", ",0,2,-1,1 1,1 0,1 2"},
		{seaOf(1, 1, 1, 1), "", ",1,1 1,1 2,0 1,1 0,1 1 1"},
		{seaOf(3, 2, 3, 2), "7 24,7 48,56 3,56 6", ",7,56,7 24 0,7 24 1,7 24 24,24 7,7 9,7 6,7 36,7 40,7 56,11 48,7 0,0 24,7 8,7 192,7 3,56 24,3 24,-7 24,7 -24"},
		{seaOf(2, 2, 1, 1), "1 2,1 4,1 8,2 4,2 8,4 8", "2 1,8 4,1 1,8 8,3 4,1 6,0 1,1 0,1 16,16 1,1,2,1 2 4,1 2 0"},
		{seaOf(2, 2, 2, 2), "3 12,5 10", "12 3,10 5,3 3,3 5,3 10,5 12,6 9,9 6,3 4,1 12,12,3 12 0"},
		{seaOf(5, 1, 2, 2), "3 12,3 24,6 24", "12 3,24 3,24 6,3 6,6 12,6 3,12 24,3 3,3 48,5 24,9 6"},
		{seaOf(3, 1, 2, 1), "3 4,6 1", "4 3,1 6,3 1,3 2,6 4,5 2,2 5,3,3 8,3 4 0"},
		{seaOf(3, 1, 1, 1, 1), "1 2 4", "1 4 2,2 1 4,2 4 1,4 1 2,4 2 1,1 2 2,1 1 2,1 2 8,1 2,1 2 4 8"},
		// Only ships of the same length are in order.
		{seaOf(2, 3, 2, 1, 1), "48 1 2,3 4 8,12 1 32", "48 2 1,3 8 4,5 2 48,1 2 48"},
		{seaOf(5, 1, 2, 2, 1), "3 12 16,3 24 4,6 24 1", "12 3 16,24 3 4,24 6 1,3 16 12,6 1 24,1 6 24,3 12 1,3 12 4"},
		{seaOf(4, 1, 5), "", "31,15,30,0"},
		{seaOf(5, 5, 5, 5, 5), "31 992 32505856,1082401 2164802 17318416", "31 992 1082401,31 31744 992,31 992 992,31 992 65011712"},
	}
	for _, test := range tests {
		for is, lists := range map[bool]string{true: test.is, false: test.no} {
			for list := range strings.SplitSeq(lists, ",") {
				if list != "" || !is {
					wantIsFleet(t, test.sea, numbers(list), is)
				}
			}
		}
		for _, n := range []int64{256 + 1, 1<<32 + 7, leastInt, leastInt + 1, leastInt + 7, greatestInt, 1 << 25, 1 << 62, -1} {
			for k := range test.sea.Ships {
				fleet := repeat(1, len(test.sea.Ships))
				fleet[k] = n
				wantIsFleet(t, test.sea, fleet, false)
			}
		}
		wantIsFleet(t, test.sea, repeat(1, 100), false)
		wantIsFleet(t, test.sea, nil, false)
	}
}

// All lists of numbers of small seas.
func TestIsFleetOfAllLists(t *testing.T) {
	fleets := 0
	for _, w := range manyWaters() {
		cells, ships := len(w.cells()), len(w.sea.Ships)
		if cells*ships > 12 || len(w.charts) == 0 && ships > 1 {
			continue
		}
		known := map[string]bool{}
		for _, c := range w.charts {
			known[fmt.Sprint(c.fleet())] = true
		}
		for number := range int64(1) << (cells * ships) {
			var fleet []int64
			for k := range ships {
				fleet = append(fleet, number>>(k*cells)&(1<<cells-1))
			}
			is, code := impl.IsFleet(w.sea, fleet)
			wantValue(t, fmt.Sprint("IsFleet ", w.sea, fleet), is, code, known[fmt.Sprint(fleet)], impl.ErrNone)
		}
		fleets += len(known)
	}
	if fleets < 500 {
		t.Errorf("only %d lists are fleets", fleets)
	}
}

// Fleets, and what comes from them by a change of one or two numbers.
func TestIsFleetAgainstCharts(t *testing.T) {
	var d dice = 9
	kinds := map[string]int{}
	for _, w := range manyWaters() {
		known := map[string]bool{}
		for _, c := range w.charts {
			known[fmt.Sprint(c.fleet())] = true
		}
		for _, c := range w.some(&d, 12) {
			wantIsFleet(t, w.sea, c.fleet(), true)
			for change := range 4 {
				fleet := c.fleet()
				k, other := d.below(int64(len(fleet))), d.below(int64(len(fleet)))
				switch change {
				case 0:
					fleet[k] ^= 1 << d.below(int64(len(w.cells())))
				case 1:
					fleet[k], fleet[other] = fleet[other], fleet[k]
				case 2:
					fleet[k] <<= 1
				case 3:
					placements := first(impl.PlacementsOf(w.sea, w.sea.Ships[k]))
					fleet[k] = placements[d.below(int64(len(placements)))]
				}
				is := known[fmt.Sprint(fleet)]
				wantIsFleet(t, w.sea, fleet, is)
				kinds[fmt.Sprint(change, is)]++
			}
		}
	}
	for _, kind := range []string{"0 false", "1 true", "1 false", "2 true", "2 false", "3 true", "3 false"} {
		if kinds[kind] < 50 {
			t.Errorf("changes are fleets, or not: %v", kinds)
		}
	}
}

func TestCountFleetsByHand(t *testing.T) {
	tests := []struct {
		sea  impl.Sea
		want int64
	}{
		{seaOf(1, 1, 1), 1}, {seaOf(1, 1, 2), 0}, {seaOf(1, 1, 1, 1), 0}, {seaOf(1, 1, 1, 1, 1), 0}, {seaOf(1, 1, 5, 5, 5), 0}, {seaOf(2, 1, 1, 1), 1}, {seaOf(2, 1, 1, 1, 1), 0}, {seaOf(2, 1, 2, 1), 0},
		{seaOf(3, 2, 3, 2), 4}, {seaOf(2, 2, 1, 1), 6}, {seaOf(2, 2, 3), 0}, {seaOf(2, 2, 3, 1), 0}, {seaOf(2, 2, 2, 2), 2}, {seaOf(3, 1, 1, 1, 1), 1}, {seaOf(1, 3, 2, 1), 2}, {seaOf(5, 1, 2, 2), 3}, {seaOf(5, 1, 2, 2, 1), 3}, {seaOf(1, 5, 3, 2), 2},
		{seaOf(5, 5, 1), 25}, {seaOf(5, 5, 2), 40}, {seaOf(5, 5, 3), 30}, {seaOf(5, 5, 4), 20}, {seaOf(5, 5, 5), 10},
		{seaOf(5, 5, 1, 1), 300}, {seaOf(5, 5, 1, 1, 1), 2300}, {seaOf(5, 5, 2, 1), 40 * 23}, {seaOf(5, 5, 2, 1, 1), 40 * 23 * 22 / 2}, {seaOf(5, 5, 5, 1), 200}, {seaOf(5, 5, 5, 1, 1), 10 * 190},
		// Two rows, or two columns; and as many ways of three.
		{seaOf(5, 5, 5, 5), 20}, {seaOf(5, 5, 5, 5, 5), 20}, {seaOf(5, 5, 5, 5, 1), 300},
		// All pairs of dominoes without those that meet in a corner, at an edge, and within.
		{seaOf(5, 5, 2, 2), 40*39/2 - 4 - 12*3 - 9*6},
		{seaOf(4, 4, 1), 16}, {seaOf(4, 4, 5), 0}, {seaOf(4, 4, 4, 4), 12}, {seaOf(4, 5, 5), 4}, {seaOf(5, 4, 5), 4}, {seaOf(5, 4, 5, 5), 6},
	}
	for _, test := range tests {
		count, code := impl.CountFleets(test.sea)
		wantValue(t, fmt.Sprint("CountFleets ", test.sea), count, code, test.want, impl.ErrNone)
	}
}

// fleetsText writes lists of fleets down.
func fleetsText(charts []chart) string {
	text := ""
	for _, c := range charts {
		text += fmt.Sprintln(c.fleet())
	}
	return text
}

func TestFleetListByHand(t *testing.T) {
	tests := []struct {
		sea  impl.Sea
		want string
	}{
		{seaOf(1, 1, 1), "[[1]]"}, {seaOf(1, 1, 2), "[]"}, {seaOf(1, 1, 1, 1), "[]"},
		{seaOf(3, 2, 3, 2), "[[7 24] [7 48] [56 3] [56 6]]"},
		{seaOf(2, 2, 1, 1), "[[1 2] [1 4] [1 8] [2 4] [2 8] [4 8]]"},
		{seaOf(2, 2, 2), "[[3] [5] [10] [12]]"},
		{seaOf(2, 2, 2, 1), "[[3 4] [3 8] [5 2] [5 8] [10 1] [10 4] [12 1] [12 2]]"},
		{seaOf(2, 2, 2, 1, 1), "[[3 4 8] [5 2 8] [10 1 4] [12 1 2]]"},
		{seaOf(1, 3, 2, 1), "[[3 4] [6 1]]"}, {seaOf(5, 1, 2, 2, 1), "[[3 12 16] [3 24 4] [6 24 1]]"},
		{seaOf(2, 5, 5, 5), "[[341 682]]"}, {seaOf(5, 2, 5, 5), "[[31 992]]"},
	}
	for _, test := range tests {
		fleets, code := impl.FleetList(test.sea)
		wantValue(t, fmt.Sprint("FleetList ", test.sea), fmt.Sprint(fleets), code, test.want, impl.ErrNone)
	}
}

func TestFleetsAgainstCharts(t *testing.T) {
	limits := map[string]int{}
	for _, w := range manyWaters() {
		what := fmt.Sprint(w.sea)
		count, code := impl.CountFleets(w.sea)
		wantValue(t, "CountFleets "+what, count, code, int64(len(w.charts)), impl.ErrNone)
		fleets, code := impl.FleetList(w.sea)
		if len(w.charts) > 300 {
			wantNoList(t, "FleetList "+what, fleets, code, impl.ErrLimit)
			limits["more"]++
			if len(w.charts) < 320 {
				limits["few more"]++
			}
			continue
		}
		text := ""
		for _, fleet := range fleets {
			text += fmt.Sprintln(fleet)
		}
		wantValue(t, "FleetList "+what, text, code, fleetsText(w.charts), impl.ErrNone)
		limits["at most"]++
		switch len(w.charts) {
		case 300:
			limits["just"]++
		case 0:
			limits["none"]++
		}
	}
	if limits["more"] < 50 || limits["few more"] < 4 || limits["at most"] < 500 || limits["just"] < 2 || limits["none"] < 100 {
		t.Errorf("the numbers of fleets are %v", limits)
	}
}

func TestCellsAndTextsOfFleetsByHand(t *testing.T) {
	tests := []struct {
		sea                impl.Sea
		fleet, text, cells string
	}{
		{seaOf(1, 1, 1), "1", "a", "0"},
		{seaOf(3, 2, 3, 2), "7 24", "aaa/bb.", "0 1 2 3 4"}, {seaOf(3, 2, 3, 2), "56 6", ".bb/aaa", "1 2 3 4 5"},
		{seaOf(2, 2, 1, 1, 1), "1 2 8", "ab/.c", "0 1 3"}, {seaOf(2, 2, 2, 1), "10 4", ".a/ba", "1 2 3"},
		{seaOf(5, 1, 3, 1), "14 1", "baaa.", "0 1 2 3"}, {seaOf(5, 1, 2, 2), "6 24", ".aabb", "1 2 3 4"},
		{seaOf(1, 5, 2, 2), "3 24", "a/a/./b/b", "0 1 3 4"}, {seaOf(1, 5, 1), "16", "././././a", "4"},
		{seaOf(4, 3, 3, 2, 1), "546 3072 4", ".ac./.a../.abb", "1 2 5 9 10 11"}, {seaOf(2, 3, 3, 3), "21 42", "ab/ab/ab", "0 1 2 3 4 5"},
		{seaOf(5, 5, 5, 4, 1), "32505856 15 512", "bbbb./....c/...../...../aaaaa", "0 1 2 3 9 20 21 22 23 24"},
		{seaOf(5, 5, 1), "16777216", "...../...../...../...../....a", "24"},
	}
	for _, test := range tests {
		fleet := numbers(test.fleet)
		cells, code := impl.CellsOfFleet(test.sea, fleet)
		wantList(t, fmt.Sprint("CellsOfFleet ", test.sea, fleet), cells, code, numbers(test.cells))
		text, code := impl.FleetText(test.sea, fleet)
		wantValue(t, fmt.Sprint("FleetText ", test.sea, fleet), text, code, test.text, impl.ErrNone)
		back, code := impl.ParseFleet(test.sea, test.text)
		wantList(t, fmt.Sprint("ParseFleet ", test.sea, test.text), back, code, fleet)
	}
}

func TestAnswersByHand(t *testing.T) {
	tests := []struct {
		sea                impl.Sea
		fleet, cells, want string
	}{
		{seaOf(1, 1, 1), "1", "", ""}, {seaOf(1, 1, 1), "1", "0", "2"},
		{seaOf(3, 2, 3, 2), "7 24", "5 3 0 4", "0 1 1 2"}, {seaOf(3, 2, 3, 2), "7 24", "5", "0"}, {seaOf(3, 2, 3, 2), "7 24", "4", "1"}, {seaOf(3, 2, 3, 2), "7 24", "3 4", "1 2"}, {seaOf(3, 2, 3, 2), "7 24", "4 3", "1 2"},
		{seaOf(3, 2, 3, 2), "7 24", "0 1 2 3 4 5", "1 1 2 1 2 0"}, {seaOf(3, 2, 3, 2), "7 24", "5 4 3 2 1 0", "0 1 2 1 1 2"},
		// Shots between those at the cells of a ship, and an order that is not that of the cells.
		{seaOf(5, 1, 3, 1), "7 16", "0 3 1 4 2", "1 0 1 2 2"}, {seaOf(5, 1, 3, 1), "7 16", "2 4 0 3 1", "1 2 1 0 2"}, {seaOf(5, 1, 3, 1), "28 1", "3 2 1 0", "1 1 0 2"},
		{seaOf(2, 2, 1, 1, 1), "1 2 8", "3 2 1 0", "2 0 2 2"},
		{seaOf(2, 2, 2, 2), "3 12", "0 2 1 3", "1 1 2 2"}, {seaOf(2, 2, 2, 2), "5 10", "0 2 1 3", "1 2 1 2"},
		{seaOf(5, 5, 5), "17318416", "24 4 19 9 14 0", "1 1 1 1 2 0"}, {seaOf(5, 5, 5, 5), "31 32505856", "0 20 1 21 2 22 3 23 4 24", "1 1 1 1 1 1 1 1 2 2"},
	}
	for _, test := range tests {
		cells := numbers(test.cells)
		answers, code := impl.AnswersOf(test.sea, numbers(test.fleet), cells)
		wantList(t, fmt.Sprint("AnswersOf ", test.sea, test.fleet, cells), answers, code, numbers(test.want))
		var shots []impl.Shot
		for k, answer := range numbers(test.want) {
			shots = append(shots, impl.Shot{Cell: cells[k], Answer: answer})
		}
		agrees, code := impl.Agrees(test.sea, numbers(test.fleet), shots)
		wantValue(t, fmt.Sprint("Agrees ", test.sea, test.fleet, shots), agrees, code, true, impl.ErrNone)
		for k := range shots {
			for answer := range int64(3) {
				changed := slices.Clone(shots)
				changed[k].Answer = answer
				agrees, code := impl.Agrees(test.sea, numbers(test.fleet), changed)
				wantValue(t, fmt.Sprint("Agrees ", test.sea, test.fleet, changed), agrees, code, answer == shots[k].Answer, impl.ErrNone)
			}
		}
	}
}

// drawnCells returns count different cells in any order.
func (d *dice) drawnCells(w waters, count int) []int64 {
	cells := w.cells()
	for k := range cells {
		other := k + int(d.below(int64(len(cells)-k)))
		cells[k], cells[other] = cells[other], cells[k]
	}
	return cells[:count]
}

// drawnShots returns lists of shots: none, one, some, and at all cells; some with the answers of a
// fleet, some with one changed, and some with any answers.
func (d *dice) drawnShots(w waters) [][]impl.Shot {
	size := len(w.cells())
	var lists [][]impl.Shot
	for _, count := range []int{0, 1, 1 + int(d.below(int64(size))), 1 + int(d.below(int64(size))), size} {
		cells := d.drawnCells(w, count)
		var shots []impl.Shot
		for _, cell := range cells {
			shots = append(shots, impl.Shot{Cell: cell, Answer: d.below(3)})
		}
		lists = append(lists, shots)
		if len(w.charts) > 0 {
			given := w.charts[d.below(int64(len(w.charts)))].shots(cells)
			lists = append(lists, slices.Clone(given))
			if count > 0 {
				given[d.below(int64(count))].Answer = d.below(3)
			}
			lists = append(lists, given)
		}
	}
	return lists
}

func TestAnswersAgainstCharts(t *testing.T) {
	var d dice = 19
	kinds := map[string]int{}
	for _, w := range manyWaters() {
		for _, c := range w.some(&d, 8) {
			cells := d.drawnCells(w, int(d.below(int64(len(w.cells())+1))))
			answers, code := impl.AnswersOf(w.sea, c.fleet(), cells)
			wantList(t, fmt.Sprint("AnswersOf ", w.sea, c, cells), answers, code, c.answers(cells))
			for _, shots := range d.drawnShots(w) {
				agrees, code := impl.Agrees(w.sea, c.fleet(), shots)
				wantValue(t, fmt.Sprint("Agrees ", w.sea, c, shots), agrees, code, c.agrees(shots), impl.ErrNone)
				kinds[fmt.Sprint(agrees, min(len(shots), 2))]++
			}
		}
	}
	for _, kind := range []string{"true 0", "true 1", "true 2", "false 1", "false 2"} {
		if kinds[kind] < 500 {
			t.Errorf("fleets agree with shots, or not: %v", kinds)
		}
	}
}

func TestCellsAndTextsOfFleetsAgainstCharts(t *testing.T) {
	var d dice = 29
	for _, w := range manyWaters() {
		for _, c := range w.some(&d, 30) {
			what := fmt.Sprint(w.sea, c)
			cells, code := impl.CellsOfFleet(w.sea, c.fleet())
			wantList(t, "CellsOfFleet "+what, cells, code, c.cells())
			text, code := impl.FleetText(w.sea, c.fleet())
			wantValue(t, "FleetText "+what, text, code, string(c), impl.ErrNone)
			fleet, code := impl.ParseFleet(w.sea, string(c))
			wantList(t, "ParseFleet "+what, fleet, code, c.fleet())
		}
	}
}

// shotsIn reads shots, each as its cell, `:`, and its answer.
func shotsIn(text string) []impl.Shot {
	var shots []impl.Shot
	for _, word := range strings.Fields(text) {
		numbers := numbers(strings.ReplaceAll(word, ":", " "))
		shots = append(shots, impl.Shot{Cell: numbers[0], Answer: numbers[1]})
	}
	return shots
}

// shotCase tells, for shots at a sea, how many fleets agree, the shares, the cells that are certain
// of both kinds, and the best cell, with which the search ends if it is -1.
type shotCase struct {
	sea               impl.Sea
	shots             string
	count             int64
	shares, all, none string
	best              int64
}

func shotCases() []shotCase {
	three, pair := seaOf(3, 2, 3, 2), seaOf(3, 1, 2)
	single, four := seaOf(3, 1, 1), seaOf(2, 2, 2, 2)
	return []shotCase{
		{three, "", 4, "3 4 3 3 4 3", "1 4", "", 1}, {three, "5:0", 1, "1 1 1 1 1 0", "0 1 2 3 4", "", 0}, {three, "1:1", 4, "3 4 3 3 4 3", "4", "", 4}, {three, "1:1 4:1", 4, "3 4 3 3 4 3", "", "", 0},
		{three, "0:0", 1, "0 1 1 1 1 1", "1 2 3 4 5", "", 1}, {three, "1:1 0:2", 1, "1 1 0 1 1 1", "3 4 5", "2", 3}, {three, "0:1 1:2", 1, "1 1 0 1 1 1", "3 4 5", "2", 3}, {three, "0:1 1:1 2:2", 2, "2 2 2 1 2 1", "4", "", 4},
		{three, "0:1 1:1 2:2 3:1 4:2 5:0", 1, "1 1 1 1 1 0", "", "", -1}, {three, "0:1 1:1 2:2 4:1 3:2", 1, "1 1 1 1 1 0", "", "5", 5},
		{pair, "", 2, "1 2 1", "1", "", 1}, {pair, "1:1", 2, "1 2 1", "", "", 0}, {pair, "0:1", 1, "1 1 0", "1", "2", 1}, {pair, "0:0", 1, "0 1 1", "1 2", "", 1}, {pair, "2:0", 1, "1 1 0", "0 1", "", 0},
		{pair, "1:1 0:2", 1, "1 1 0", "", "2", 2}, {pair, "0:1 1:2", 1, "1 1 0", "", "2", 2}, {pair, "1:1 0:0", 1, "0 1 1", "2", "", 2}, {pair, "1:1 0:0 2:2", 1, "0 1 1", "", "", -1},
		{single, "", 3, "1 1 1", "", "", 0}, {single, "0:0", 2, "0 1 1", "", "", 1}, {single, "0:2", 1, "1 0 0", "", "1 2", 1}, {single, "2:2", 1, "0 0 1", "", "0 1", 0}, {single, "0:0 1:0", 1, "0 0 1", "2", "", 2},
		{four, "", 2, "2 2 2 2", "0 1 2 3", "", 0}, {four, "0:1", 2, "2 2 2 2", "1 2 3", "", 1}, {four, "0:1 1:2", 1, "1 1 1 1", "2 3", "", 2}, {four, "0:1 3:1", 2, "2 2 2 2", "1 2", "", 1},
		{seaOf(1, 1, 1), "", 1, "1", "0", "", 0}, {seaOf(1, 1, 1), "0:2", 1, "1", "", "", -1},
		{seaOf(1, 5, 5), "", 1, "1 1 1 1 1", "0 1 2 3 4", "", 0}, {seaOf(1, 5, 5), "2:1", 1, "1 1 1 1 1", "0 1 3 4", "", 0}, {seaOf(1, 5, 4), "", 2, "1 2 2 2 1", "1 2 3", "", 1}, {seaOf(1, 5, 4), "1:1 2:1 3:1", 2, "1 2 2 2 1", "", "", 0},
		{seaOf(3, 3, 3), "4:0", 4, "2 1 2 1 0 1 2 1 2", "", "", 0}, {seaOf(3, 3, 3), "4:1 1:0", 1, "0 0 0 1 1 1 0 0 0", "3 5", "0 2 6 7 8", 3}, {seaOf(5, 1, 2), "2:0", 2, "1 1 0 1 1", "", "", 0}, {seaOf(5, 1, 3), "0:0 1:0", 1, "0 0 1 1 1", "2 3 4", "", 2},
		{seaOf(5, 1, 2, 2), "", 3, "2 3 2 3 2", "1 3", "", 1}, {seaOf(5, 1, 2, 2), "1:1 0:2", 2, "2 2 1 2 1", "3", "", 3},
		// A ship that cannot be, and a cell that none can have.
		{seaOf(3, 2, 3), "0:0 4:0", 0, "0 0 0 0 0 0", "", "", -1}, {seaOf(3, 3, 3), "4:0 0:1 1:1", 1, "1 1 1 0 0 0 0 0 0", "2", "3 5 6 7 8", 2},
		// No fleet agrees.
		{single, "0:1", 0, "0 0 0", "", "", -1}, {single, "0:2 1:2", 0, "0 0 0", "", "", -1}, {single, "0:0 1:0 2:0", 0, "0 0 0", "", "", -1}, {pair, "1:0", 0, "0 0 0", "", "", -1}, {pair, "0:2", 0, "0 0 0", "", "", -1}, {pair, "0:1 1:1", 0, "0 0 0", "", "", -1}, {three, "1:0", 0, "0 0 0 0 0 0", "", "", -1},
		{seaOf(2, 2, 3), "", 0, "0 0 0 0", "", "", -1}, {seaOf(2, 2, 3), "0:0", 0, "0 0 0 0", "", "", -1}, {seaOf(1, 1, 1, 1), "", 0, "0", "", "", -1}, {seaOf(1, 1, 1, 1), "0:2", 0, "0", "", "", -1},
	}
}

func TestSharesByHand(t *testing.T) {
	for _, test := range shotCases() {
		shots := shotsIn(test.shots)
		what := fmt.Sprint(test.sea, shots)
		count, code := impl.CountAgreeing(test.sea, shots)
		wantValue(t, "CountAgreeing "+what, count, code, test.count, impl.ErrNone)
		shares, code := impl.SharesOf(test.sea, shots)
		wantList(t, "SharesOf "+what, shares, code, numbers(test.shares))
		if test.count > 0 {
			all, none, code := impl.CertainCells(test.sea, shots)
			wantList(t, "CertainCells "+what+", the first list", all, code, numbers(test.all))
			wantList(t, "CertainCells "+what+", the second list", none, code, numbers(test.none))
		} else {
			wantNothingCertain(t, what, test.sea, shots, impl.ErrNotFound)
		}
		if test.best >= 0 {
			best, code := impl.BestCell(test.sea, shots)
			wantValue(t, "BestCell "+what, best, code, test.best, impl.ErrNone)
		} else {
			wantNoBest(t, what, test.sea, shots, impl.ErrNotFound)
		}
	}
}

// wantShares checks what comes from shots at a sea against the charts that agree, and tells of which
// kind they are.
func wantShares(t *testing.T, w waters, shots []impl.Shot) []string {
	t.Helper()
	what := fmt.Sprint(w.sea, shots)
	left := w.agreeing(shots)
	count, code := impl.CountAgreeing(w.sea, shots)
	wantValue(t, "CountAgreeing "+what, count, code, int64(len(left.charts)), impl.ErrNone)
	shares, code := impl.SharesOf(w.sea, shots)
	wantList(t, "SharesOf "+what, shares, code, left.shares())
	if len(left.charts) == 0 {
		wantNothingCertain(t, what, w.sea, shots, impl.ErrNotFound)
		wantNoBest(t, what, w.sea, shots, impl.ErrNotFound)
		return []string{"no fleet"}
	}
	all, none, code := impl.CertainCells(w.sea, shots)
	wantAll, wantNone := left.certain(shots)
	wantList(t, "CertainCells "+what+", the first list", all, code, wantAll)
	wantList(t, "CertainCells "+what+", the second list", none, code, wantNone)
	kinds := []string{fmt.Sprint("certain ", len(wantAll) > 0, len(wantNone) > 0), fmt.Sprint("fleets ", min(len(left.charts), 2)), fmt.Sprint("shots ", min(len(shots), 2))}
	wantBest, equal := left.best(shots)
	if equal == 0 {
		wantNoBest(t, what, w.sea, shots, impl.ErrNotFound)
		return append(kinds, "no cell")
	}
	best, code := impl.BestCell(w.sea, shots)
	wantValue(t, "BestCell "+what, best, code, wantBest, impl.ErrNone)
	return append(kinds, fmt.Sprint("best ", min(equal, 2), wantBest > 0))
}

func TestSharesAgainstCharts(t *testing.T) {
	var d dice = 39
	kinds := map[string]int{}
	for _, w := range manyWaters() {
		for _, shots := range d.drawnShots(w) {
			for _, kind := range wantShares(t, w, shots) {
				kinds[kind]++
			}
		}
	}
	for _, kind := range []string{"no fleet", "no cell", "fleets 1", "fleets 2", "shots 0", "shots 1", "shots 2", "certain true true", "certain true false", "certain false true", "certain false false", "best 1 true", "best 1 false", "best 2 true", "best 2 false"} {
		if kinds[kind] < 20 {
			t.Errorf("the kinds of shots are %v", kinds)
		}
	}
}

// All shots at the cells of small seas, with all answers.
func TestSharesOfAllShots(t *testing.T) {
	for _, w := range manyWaters() {
		if len(w.cells()) > 4 || len(w.charts) == 0 && len(w.sea.Ships) > 1 {
			continue
		}
		lists := [][]impl.Shot{nil}
		for k := 0; k < len(lists); k++ {
			wantShares(t, w, lists[k])
			for _, cell := range w.cells() {
				if slices.Contains(cellsShot(lists[k]), cell) || len(lists[k]) > 2 {
					continue
				}
				for answer := range int64(3) {
					lists = append(lists, append(slices.Clone(lists[k]), impl.Shot{Cell: cell, Answer: answer}))
				}
			}
		}
	}
}

func TestHuntsByHand(t *testing.T) {
	tests := []struct {
		sea         impl.Sea
		fleet, want string
	}{
		{seaOf(1, 1, 1), "1", "0"},
		// All cells have the same share: some hunts begin with a miss, or with many.
		{seaOf(3, 1, 1), "1", "0"}, {seaOf(3, 1, 1), "2", "0 1"}, {seaOf(3, 1, 1), "4", "0 1 2"},
		{seaOf(5, 5, 1), "16777216", fmt.Sprint(upTo(0, 24))}, {seaOf(5, 5, 1, 1), "1 2", "0 1"}, {seaOf(5, 5, 1, 1), "8388608 16777216", fmt.Sprint(upTo(0, 24))}, {seaOf(5, 5, 1, 1), "1 16777216", fmt.Sprint(upTo(0, 24))},
		{seaOf(3, 1, 2), "3", "1 0"}, {seaOf(3, 1, 2), "6", "1 0 2"}, {seaOf(1, 5, 4), "15", "1 2 3 0"}, {seaOf(1, 5, 4), "30", "1 2 3 0 4"},
		{seaOf(3, 2, 3, 2), "7 24", "1 4 0 2 3"}, {seaOf(3, 2, 3, 2), "56 3", "1 4 0 3 5"}, {seaOf(3, 2, 3, 2), "56 6", "1 4 0 2 3 5"}, {seaOf(3, 2, 3, 2), "7 48", "1 4 0 2 3 5"},
		// Ships side by side.
		{seaOf(2, 2, 2, 2), "3 12", "0 1 2 3"}, {seaOf(2, 2, 2, 2), "5 10", "0 1 2 3"}, {seaOf(2, 5, 5, 5), "341 682", fmt.Sprint(upTo(0, 9))},
		// Each cell has a row and a column for the ship. A miss takes both away; behind the first hit
		// both are left, and the first cell of the column comes before those of the row.
		{seaOf(5, 5, 5), "31", "0 1 2 3 4"}, {seaOf(5, 5, 5), "1082401", "0 1 5 10 15 20"}, {seaOf(5, 5, 5), "992", "0 6 1 5 7 8 9"}, {seaOf(5, 5, 5), "32505856", "0 6 12 18 24 4 20 21 22 23"},
	}
	for _, test := range tests {
		want := numbers(strings.Trim(test.want, "[]"))
		cells, code := impl.HuntFleet(test.sea, numbers(test.fleet))
		wantList(t, fmt.Sprint("HuntFleet ", test.sea, test.fleet), cells, code, want)
	}
}

func TestHuntsAgainstCharts(t *testing.T) {
	var d dice = 49
	kinds := map[string]int{}
	for _, w := range manyWaters() {
		for _, c := range w.some(&d, 4) {
			if len(w.charts) > 300 {
				cells, code := impl.HuntFleet(w.sea, c.fleet())
				wantNoList(t, fmt.Sprint("HuntFleet ", w.sea, c), cells, code, impl.ErrLimit)
				kinds["too many"]++
				continue
			}
			want := w.hunt(c)
			cells, code := impl.HuntFleet(w.sea, c.fleet())
			wantList(t, fmt.Sprint("HuntFleet ", w.sea, c), cells, code, want)
			kinds[fmt.Sprint("begins with ", c.answers(want)[0])]++
			kinds[fmt.Sprint("in order ", slices.IsSorted(want))]++
			kinds[fmt.Sprint("without misses ", len(want) == len(c.cells()))]++
		}
	}
	for _, kind := range []string{"too many", "begins with 0", "begins with 1", "begins with 2", "in order true", "in order false", "without misses true", "without misses false"} {
		if kinds[kind] < 50 {
			t.Errorf("the kinds of hunts are %v", kinds)
		}
	}
}

// Seas of just 300 fleets, and of a few more.
func TestHuntLimit(t *testing.T) {
	for _, sea := range []impl.Sea{seaOf(5, 5, 1, 1), seaOf(5, 5, 5, 5, 1)} {
		w := watersOf(sea)
		for _, c := range []chart{w.charts[0], w.charts[150], w.charts[299]} {
			cells, code := impl.HuntFleet(sea, c.fleet())
			wantList(t, fmt.Sprint("HuntFleet ", sea, c), cells, code, w.hunt(c))
		}
	}
	for _, sea := range []impl.Sea{seaOf(3, 5, 4, 3, 2), seaOf(5, 5, 5, 4, 4), seaOf(4, 5, 4, 4, 3), seaOf(5, 5, 1, 1, 1), seaOf(5, 5, 3, 2, 1)} {
		for _, c := range watersOf(sea).charts[:3] {
			cells, code := impl.HuntFleet(sea, c.fleet())
			wantNoList(t, fmt.Sprint("HuntFleet ", sea, c), cells, code, impl.ErrLimit)
		}
	}
}

// A list that is no fleet is out of range also where the sea has too many fleets for a hunt, and
// where the cells or shots are wrong, too.
func TestFleetsOutOfRange(t *testing.T) {
	for _, sea := range slices.Concat(greatSeas(), []impl.Sea{seaOf(1, 1, 1), seaOf(3, 2, 3, 2), seaOf(2, 2, 1, 1, 1), seaOf(2, 2, 3), seaOf(1, 5, 2, 2)}) {
		right := watersOf(sea).charts
		lists := [][]int64{nil, {}, {0}, {-1}, {3, 3}, {1, 1}, {1, 1, 1}, {0, 0, 0}, {2, 2, 2, 2}, {leastInt}, {greatestInt, 1}, {1, leastInt}, {1 << 25}, {1 << 32, 1}, {1, 2, 4, 8}, repeat(7, 1000)}
		if len(right) > 0 {
			fleet := right[len(right)/2].fleet()
			lists = append(lists, fleet[1:], append(slices.Clone(fleet), 0), append(slices.Clone(fleet), fleet[0]), append([]int64{0}, fleet...), append(slices.Clone(fleet), 1<<24))
			if len(fleet) > 1 {
				backward := slices.Clone(fleet)
				slices.Reverse(backward)
				lists = append(lists, backward, append([]int64{fleet[0]}, fleet[:len(fleet)-1]...))
			}
		}
		for _, list := range lists {
			is, code := impl.IsFleet(sea, list)
			wantValue(t, fmt.Sprint("IsFleet ", sea, list), is, code, false, impl.ErrNone)
			for _, number := range []int64{0, -1, 25, 3} {
				wantNothingOfFleet(t, fmt.Sprint(sea), sea, list, []int64{number}, []impl.Shot{{Cell: number, Answer: number}}, impl.ErrRange)
			}
			wantNothingOfFleet(t, fmt.Sprint(sea), sea, list, nil, nil, impl.ErrRange)
		}
	}
}

// Cells that are not of the sea, or come twice, and answers that are none, are out of range, also
// where no fleet agrees or a shot was at each cell.
func TestShotsOutOfRange(t *testing.T) {
	for _, sea := range slices.Concat(greatSeas(), []impl.Sea{seaOf(1, 1, 1), seaOf(3, 2, 3, 2), seaOf(2, 2, 1, 1, 1), seaOf(1, 5, 2, 2), seaOf(5, 1, 5), seaOf(2, 2, 3), seaOf(1, 1, 1, 1)}) {
		w := watersOf(sea)
		size := int64(len(w.cells()))
		lists := [][]int64{{-1}, {size}, {size + 1}, {-size}, {25}, {63}, {64}, {65}, {256}, {1 << 32}, {-1 << 32}, {leastInt}, {greatestInt}, {0, -1}, {0, size}, {size, 0}, {0, 0}, {size - 1, size - 1}, append(w.cells(), 0), append(w.cells(), size-1), append(w.cells(), size), append(w.cells(), -1), upTo(-1, size-1), repeat(0, 100)}
		if size > 2 {
			lists = append(lists, []int64{0, 1, 0}, []int64{1, 2, 2}, []int64{2, 0, 2}, []int64{0, 1, size}, []int64{0, leastInt, 1})
		}
		for _, cells := range lists {
			for answer := range int64(4) {
				var shots []impl.Shot
				for k, cell := range cells {
					shots = append(shots, impl.Shot{Cell: cell, Answer: (answer + int64(k)) % 3})
				}
				wantShotsOutOfRange(t, w, cells, shots)
			}
		}
		for _, answer := range []int64{-1, 3, 4, -2, -3, 256, 256 + 1, 1 << 32, 1<<32 + 1, leastInt, leastInt + 1, greatestInt} {
			for k := range min(size, 3) {
				shots := []impl.Shot{{Cell: 0}, {Cell: 1}, {Cell: 2}}[:min(size, 3)]
				shots[k].Answer = answer
				wantShotsOutOfRange(t, w, []int64{-1}, shots)
				wantShotsOutOfRange(t, w, []int64{-1}, shots[k:k+1])
			}
		}
	}
}

// wantShotsOutOfRange checks the functions of cells, and those of shots, with a fleet if there is one.
func wantShotsOutOfRange(t *testing.T, w waters, cells []int64, shots []impl.Shot) {
	t.Helper()
	what := fmt.Sprint(w.sea, shots)
	wantNothingOfShots(t, what, w.sea, shots, impl.ErrRange)
	if len(w.charts) > 0 {
		wantNothingOfAnswers(t, what, w.sea, w.charts[0].fleet(), cells, shots, impl.ErrRange)
	}
}

// wantFleetOrNone checks that just a text of one of all charts has a fleet.
func wantFleetOrNone(t *testing.T, w waters, text string) {
	t.Helper()
	fleet, code := impl.ParseFleet(w.sea, text)
	what := fmt.Sprintf("ParseFleet %v, %q", w.sea, text)
	if slices.Contains(w.charts, chart(text)) {
		wantList(t, what, fleet, code, chart(text).fleet())
	} else {
		wantNoList(t, what, fleet, code, impl.ErrSyntax)
	}
}

func TestTextsOfNoFleet(t *testing.T) {
	tests := []struct {
		sea   impl.Sea
		texts []string
	}{
		{seaOf(1, 1, 1), []string{"", ".", "b", "A", "aa", "a.", "a/", "/a", "/", "a ", " a", "a\n", "\x00", "é", "1"}},
		{seaOf(3, 2, 3, 2), []string{
			"", "aaa", "aaa/", "aaabb.", "aaa/bb", "aaa/bb./", "/aaa/bb.", "aaa//bb.", "aa/abb.", "aaab/b.", "aaa/bb.\n", "aaa/bb. ", "aaa\nbb.", "aaa,bb.", "aaa/bb./...", "aaa/bb.a", "aaa/bb..",
			"aaa/bbb", "aaa/b.b", "aaa/.b.", "aaa/...", ".../bb.", ".../...", "aaa/aa.", "bb./bbb", "bbb/aa.", "aab/.ab", "aa./bba", "baa/ba.", "aaa/bbc", "aaa/cc.", "aaa/BB.", "AAA/bb.", "aaa/bb ", "aaa/bb-", "aaa/bb0", "aaa/bbx", "aaa/bbé",
		}},
		{seaOf(2, 1, 1, 1), []string{"ba", "aa", "bb", "a.", ".a", ".b", "ac", "ca", "a/b"}},
		{seaOf(2, 2, 1, 1, 1), []string{"ba/c.", "ac/b.", "cb/a.", "ab/cc", "ab/..", "ab/.d", "abc.", "a/b/c/."}},
		{seaOf(2, 2, 2, 2), []string{"bb/aa", "ba/ba", "ab/ba", "aa/aa", "aa/..", "aa/b."}},
		{seaOf(5, 1, 2, 2, 1), []string{"bbaac", "aabcb", "bb.aac", "aacbb.", "aa.bb", "ccabb", "bbcaa"}},
		{seaOf(1, 2, 2), []string{"aa", "a/a/", "a//a", "a/.", "/aa", "a/a/a"}},
		{seaOf(2, 2, 3), []string{"", "../..", "aa/a.", "aaa/.", "aaa", "aa/aa"}},
		{seaOf(5, 5, 5), []string{"aaaaa", "aaaaa....................", strings.Repeat("a", 25), strings.Repeat("./", 12) + "aaaaa", "...../...../...../...../.....", "a..../.a.../..a../...a./....a", "aaaa./...../...../...../....."}},
	}
	for _, test := range tests {
		for _, text := range append(test.texts, strings.Repeat(".", 100)+"a", strings.Repeat("a", 1000), strings.Repeat("/", 1000)) {
			fleet, code := impl.ParseFleet(test.sea, text)
			wantNoList(t, fmt.Sprintf("ParseFleet %v, %q", test.sea, text), fleet, code, impl.ErrSyntax)
		}
	}
}

// All texts of some signs of the length that the texts of a small sea have.
func TestTextsOfSmallSeas(t *testing.T) {
	fleets := 0
	for _, w := range manyWaters() {
		if len(w.cells()) > 4 || len(w.sea.Ships) > 1 && len(w.charts) == 0 {
			continue
		}
		for _, text := range smallTexts(int(w.sea.Wide), int(w.sea.High), ".abcdA/") {
			wantFleetOrNone(t, w, text)
		}
		fleets += len(w.charts)
	}
	if fleets < 100 {
		t.Errorf("only %d texts of fleets", fleets)
	}
}

func TestChangedTextsOfFleets(t *testing.T) {
	var d dice = 59
	for n, w := range manyWaters() {
		if n%13 > 0 || len(w.charts) > 400 {
			continue
		}
		for _, c := range w.some(&d, 3) {
			for text := range changedTexts(string(c)) {
				wantFleetOrNone(t, w, text)
			}
		}
	}
}

// Promise 9, and the guarantee: a fleet agrees with the answers that it gives, and so it is among
// those that are counted.
func TestAnswersAgreeWithTheirFleets(t *testing.T) {
	var d dice = 69
	for _, w := range manyWaters() {
		for _, c := range w.some(&d, 6) {
			cells := d.drawnCells(w, int(d.below(int64(len(w.cells())+1))))
			answers, code := impl.AnswersOf(w.sea, c.fleet(), cells)
			if code != impl.ErrNone || len(answers) != len(cells) {
				t.Errorf("AnswersOf %v, %v, %v = %v, code %d", w.sea, c, cells, answers, code)
				continue
			}
			var shots []impl.Shot
			for k, answer := range answers {
				shots = append(shots, impl.Shot{Cell: cells[k], Answer: answer})
			}
			what := fmt.Sprint(w.sea, c, shots)
			agrees, code := impl.Agrees(w.sea, c.fleet(), shots)
			wantValue(t, "Agrees "+what, agrees, code, true, impl.ErrNone)
			if count, code := impl.CountAgreeing(w.sea, shots); count < 1 || code != impl.ErrNone {
				t.Errorf("CountAgreeing %s = %d, code %d", what, count, code)
			}
		}
	}
}

// Promise 9, and the guarantee: shares add up to the cells of all fleets that agree. Each fleet has
// as many cells as all its ships, and all fleets agree with no shots.
func TestSharesAddUp(t *testing.T) {
	var d dice = 79
	for _, w := range manyWaters() {
		for _, shots := range d.drawnShots(w) {
			sum, length := int64(0), int64(0)
			shares, code := impl.SharesOf(w.sea, shots)
			for _, share := range shares {
				sum += share
			}
			for _, n := range w.sea.Ships {
				length += n
			}
			what := fmt.Sprint(w.sea, shots)
			wantValue(t, "the sum of SharesOf "+what, sum, code, length*first(impl.CountAgreeing(w.sea, shots)), impl.ErrNone)
		}
		count, code := impl.CountAgreeing(w.sea, nil)
		wantValue(t, fmt.Sprint("CountAgreeing ", w.sea), count, code, first(impl.CountFleets(w.sea)), impl.ErrNone)
	}
}

// The guarantee: fleets listed are fleets, in order, each one once, and come back from their texts.
// Those that agree with shots are as many as are counted.
func TestFleetsListedAreFleets(t *testing.T) {
	var d dice = 89
	looked := 0
	for _, w := range manyWaters() {
		fleets, code := impl.FleetList(w.sea)
		if code != impl.ErrNone {
			continue
		}
		agreeing := int64(0)
		shots := d.drawnShots(w)[1]
		for k, fleet := range fleets {
			wantIsFleet(t, w.sea, fleet, true)
			if k > 0 && slices.Compare(fleets[k-1], fleet) >= 0 {
				t.Errorf("%v: %v is before %v", w.sea, fleets[k-1], fleet)
			}
			back, code := impl.ParseFleet(w.sea, first(impl.FleetText(w.sea, fleet)))
			wantList(t, fmt.Sprint("ParseFleet of the text of ", w.sea, fleet), back, code, fleet)
			if first(impl.Agrees(w.sea, fleet, shots)) {
				agreeing++
			}
			looked++
		}
		count, code := impl.CountAgreeing(w.sea, shots)
		wantValue(t, fmt.Sprint("CountAgreeing ", w.sea, shots), count, code, agreeing, impl.ErrNone)
	}
	if looked < 5000 {
		t.Errorf("only %d fleets are listed", looked)
	}
}

// roomyShots returns a copy of shots with spare capacity behind it, and the whole of its memory.
func roomyShots(shots []impl.Shot) ([]impl.Shot, []impl.Shot) {
	whole := append(slices.Clone(shots), impl.Shot{Cell: 77, Answer: 77}, impl.Shot{Cell: 77, Answer: 77})
	return whole[:len(shots)], whole
}

func TestFleetArgumentsStayAsTheyAre(t *testing.T) {
	var d dice = 99
	for n, w := range manyWaters() {
		if n%5 > 0 || len(w.charts) == 0 {
			continue
		}
		c := w.charts[len(w.charts)/2]
		given := c.shots(d.drawnCells(w, (len(w.cells())+1)/2))
		ships, allShips := roomy(w.sea.Ships)
		fleet, allFleet := roomy(c.fleet())
		cells, allCells := roomy(cellsShot(given))
		shots, allShots := roomyShots(given)
		sea := seaOf(w.sea.Wide, w.sea.High, ships...)
		before := fmt.Sprint(sea, allShips, allFleet, allCells, allShots)
		impl.IsSea(sea)
		impl.IsFleet(sea, fleet)
		impl.CountFleets(sea)
		impl.Agrees(sea, fleet, shots)
		impl.CountAgreeing(sea, shots)
		impl.BestCell(sea, shots)
		impl.FleetText(sea, fleet)
		spoil(first(impl.PlacementsOf(sea, ships[0])))
		spoil(first(impl.CellsOfFleet(sea, fleet)))
		spoil(first(impl.AnswersOf(sea, fleet, cells)))
		spoil(first(impl.SharesOf(sea, shots)))
		spoil(first(impl.HuntFleet(sea, fleet)))
		spoil(first(impl.ParseFleet(sea, string(c))))
		all, none, _ := impl.CertainCells(sea, shots)
		spoil(all)
		spoil(none)
		for _, list := range first(impl.FleetList(sea)) {
			spoil(list)
		}
		if got := fmt.Sprint(sea, allShips, allFleet, allCells, allShots); got != before {
			t.Errorf("the arguments %s have become %s", before, got)
		}
	}
}

func TestListsOfFleetsShareNoMemory(t *testing.T) {
	wantApart(t, "FleetList", 4, func() [][]int64 { return first(impl.FleetList(seaOf(3, 2, 3, 2))) })
	wantApart(t, "FleetList", 6, func() [][]int64 { return first(impl.FleetList(seaOf(2, 2, 1, 1))) })
	wantApart(t, "FleetList", 300, func() [][]int64 { return first(impl.FleetList(seaOf(5, 5, 5, 5, 1))) })
	wantApart(t, "CertainCells", 2, func() [][]int64 {
		all, none, _ := impl.CertainCells(seaOf(3, 3, 3), shotsIn("4:1 1:0"))
		return [][]int64{all, none}
	})
}

func TestSeasKeepNoState(t *testing.T) {
	wantNoState(t, func() string {
		text := ""
		for _, sea := range greatSeas() {
			fleets, code := impl.FleetList(sea)
			shares, second := impl.SharesOf(sea, shotsIn("0:0 6:1"))
			best, third := impl.BestCell(sea, shotsIn("7:1 8:1"))
			all, none, fourth := impl.CertainCells(sea, shotsIn("0:1 1:2 3:0"))
			text += fmt.Sprintln(fleets, code, shares, second, best, third, all, none, fourth)
			if len(fleets) > 0 {
				spoil(fleets[0])
			}
			spoil(shares)
			spoil(all)
			spoil(none)
		}
		return text
	}, func() { impl.CountAgreeing(seaOf(1, 1, 1), shotsIn("0:1")) })
}
