package tests

import (
	"bytes"
	"fmt"
	"slices"
	"strings"
	"testing"

	"loop.example/g01388/impl"
)

// square is a place of a drawing.
type square struct{ x, y int }

func (s square) plus(other square) square  { return square{s.x + other.x, s.y + other.y} }
func (s square) minus(other square) square { return square{s.x - other.x, s.y - other.y} }

// greater returns the greater one of both numbers without their signs.
func (s square) greater() int { return max(s.x, -s.x, s.y, -s.y) }

// driver is a car: where it stands, and how far it has come with its last move.
type driver struct {
	at, pace square
}

func (d driver) car() impl.Car {
	return impl.Car{int64(d.at.x), int64(d.at.y), int64(d.pace.x), int64(d.pace.y)}
}

// changes are what the moves add to the speeds.
var changes = []square{{-1, -1}, {-1, 0}, {-1, 1}, {0, -1}, {0, 0}, {0, 1}, {1, -1}, {1, 0}, {1, 1}}

func (d driver) behind(move int64) driver {
	pace := d.pace.plus(changes[move])
	return driver{d.at.plus(pace), pace}
}

// greatestWhole returns the greatest whole number that is at most above / below.
func greatestWhole(above, below int) int {
	whole := -100
	for (whole+1)*below <= above {
		whole++
	}
	return whole
}

// under returns the squares that the car has crossed with its last move.
func (d driver) under() []square {
	m := d.pace.greater()
	var squares []square
	for k := 1; k <= m-1; k++ {
		squares = append(squares, d.at.minus(d.pace).plus(square{greatestWhole(2*k*d.pace.x+m, 2*m), greatestWhole(2*k*d.pace.y+m, 2*m)}))
	}
	return squares
}

// course is a track as the sign of each of its squares. It is a second way to what rows tell.
type course map[square]byte

// rowsIn returns the rows of a text, in which `/` stands between them.
func rowsIn(text string) []string { return strings.Split(text, "/") }

func courseOf(text string) course {
	c := course{}
	for y, row := range rowsIn(text) {
		for x := range len(row) {
			c[square{x, y}] = row[x]
		}
	}
	return c
}

func (c course) isFree(at square) bool {
	sign, there := c[at]
	return there && sign != '#'
}

// start returns the first car.
func (c course) start() driver {
	var d driver
	for at, sign := range c {
		if sign == 'S' {
			d.at = at
		}
	}
	return d
}

// isOpen reports whether a move is open that has led to a car.
func (c course) isOpen(behind driver) bool {
	way := append(behind.under(), behind.at)
	return behind.pace.greater() <= 5 && !slices.ContainsFunc(way, func(at square) bool { return !c.isFree(at) })
}

// open returns the moves of a car that are open.
func (c course) open(d driver) []int64 {
	return slices.DeleteFunc(upTo(0, 8), func(move int64) bool { return !c.isOpen(d.behind(move)) })
}

// drivers returns all cars of the course.
func (c course) drivers() []driver {
	var drivers []driver
	for place := range 16 * 16 {
		if at := (square{place % 16, place / 16}); c.isFree(at) {
			for pace := range 11 * 11 {
				drivers = append(drivers, driver{at, square{pace/11 - 5, pace%11 - 5}})
			}
		}
	}
	return drivers
}

// canStop looks at all cars that can be reached.
func (c course) canStop(d driver, seen map[driver]bool) bool {
	if d.pace == (square{}) || seen[d] {
		return d.pace == (square{})
	}
	seen[d] = true
	return slices.ContainsFunc(c.open(d), func(move int64) bool { return c.canStop(d.behind(move), seen) })
}

// ahead returns the first one of the shortest lists of open moves from a car to a goal, none if
// there is none: it keeps the least list to each car that is reached by so many moves.
func (c course) ahead(d driver) []int64 {
	seen := map[driver]bool{d: true}
	for lists := map[driver][]int64{d: {}}; len(lists) > 0; {
		longer := map[driver][]int64{}
		var least []int64
		for car, list := range lists {
			for _, move := range c.open(car) {
				next, more := car.behind(move), append(slices.Clone(list), move)
				if c[next.at] == 'G' && (least == nil || slices.Compare(more, least) < 0) {
					least = more
				}
				if kept, ok := longer[next]; !seen[next] && (!ok || slices.Compare(more, kept) < 0) {
					longer[next] = more
				}
			}
		}
		if least != nil {
			return least
		}
		for next := range longer {
			seen[next] = true
		}
		lists = longer
	}
	return nil
}

// squaresBy returns for each number up to k on how many squares the first car can stand behind at
// most so many moves.
func (c course) squaresBy(k int) []int64 {
	var counts []int64
	squares := map[square]bool{}
	cars := map[driver]bool{c.start(): true}
	for range k + 1 {
		next := map[driver]bool{}
		for car := range cars {
			squares[car.at] = true
			for _, move := range c.open(car) {
				next[car.behind(move)] = true
			}
		}
		counts = append(counts, int64(len(squares)))
		cars = next
	}
	return counts
}

// routes returns the numbers of routes of 0 to k moves.
func (c course) routes(k int) []int64 {
	counts := []int64{0}
	lists := map[driver]int64{c.start(): 1}
	for range k {
		routes := int64(0)
		longer := map[driver]int64{}
		for car, count := range lists {
			for _, move := range c.open(car) {
				if next := car.behind(move); c[next.at] == 'G' {
					routes += count
				} else {
					longer[next] += count
				}
			}
		}
		counts = append(counts, routes)
		lists = longer
	}
	return counts
}

// contest is a race of two cars.
type contest struct {
	winner, turns int64
	bent          bool // some car could not move on as before behind a blink
}

// race drives two cars, and looks for each of them at each turn for the list ahead anew.
func (c course) race(blinks, others []int64) contest {
	cars := [2]driver{c.start(), c.start()}
	lists := map[driver][]int64{}
	ahead := func(d driver) []int64 {
		if lists[d] == nil {
			lists[d] = c.ahead(d)
		}
		return lists[d]
	}
	bent := false
	for turn := int64(1); ; turn++ {
		for player, list := range [][]int64{blinks, others} {
			before := ahead(cars[player])
			if slices.Contains(list, turn) {
				cars[player].pace = square{}
				bent = bent || !slices.Equal(ahead(cars[player]), before)
				continue
			}
			cars[player] = cars[player].behind(before[0])
			if c[cars[player].at] == 'G' {
				return contest{int64(player), turn, bent}
			}
		}
	}
}

// knownTracks returns tracks of many kinds.
func knownTracks() []string {
	return []string{
		"S.G", "SG", "GS", "S/G", "G/S", "S#G", "S#/#G", "S./#G", "GSG", "SGG", "S.G..", "..S......G", "#SG#",
		"S.............G.", // the only way in one row
		"S...../#####./#####./#####./....../G#####",
		"G#####/....../#####./#####./#####./S.....",
		"S..#G/...##/.....", // no way to the goal
		"G.#.G/....#/..S../#..../G...G",
		"S.............../...............G",
		"S............../#############../#############../#############../G..............",
		"....S..../.#######./.#G....#./.#.###.#./.#.....#./.#######./.........",
		"....S..../.#######./.#G....#./.#.###.#./.#.....#./.###.###./.........",
		"G..../..S../....G",
		"S..../.###./.#G#./.###./.....",
		".../.S./GGG",
		"###########/#S.......G#/###########",
		"S.#.G.#../..#...#../..#.#.#../....#....",
		serpentine(),
	}
}

// serpentine returns a track of the greatest size on which the way to the goal goes to and fro.
func serpentine() string {
	rows := []string{"S" + strings.Repeat(".", 15)}
	for range 7 {
		wall := strings.Repeat("#", 15)
		rows = append(rows, []string{wall + ".", "." + wall}[len(rows)/2%2], strings.Repeat(".", 16))
	}
	return strings.Join(append(rows, "G"+strings.Repeat("#", 15)), "/")
}

// plainTrack returns the track of free squares of a size with the start and a goal on two of them.
func plainTrack(wide, high int, start, goal square) string {
	rows := make([][]byte, high)
	for y := range rows {
		rows[y] = bytes.Repeat([]byte{'.'}, wide)
	}
	rows[start.y][start.x] = 'S'
	rows[goal.y][goal.x] = 'G'
	return string(bytes.Join(rows, []byte{'/'}))
}

// plainTracks returns tracks without walls, those of the least and of the greatest size among them.
func plainTracks() []string {
	var tracks []string
	for _, size := range []square{{2, 1}, {1, 2}, {16, 1}, {1, 16}, {15, 1}, {1, 15}, {2, 16}, {16, 2}, {7, 7}, {16, 16}} {
		first, last := square{0, 0}, square{size.x - 1, size.y - 1}
		tracks = append(tracks, plainTrack(size.x, size.y, first, last), plainTrack(size.x, size.y, last, first))
	}
	return tracks
}

// isTrackText reports whether the rows of a text are a track, by all their signs.
func isTrackText(text string) bool {
	signs := map[rune]int{}
	wide := map[int]bool{}
	for _, row := range rowsIn(text) {
		wide[len(row)] = true
		for _, sign := range row {
			signs[sign]++
		}
	}
	for size := range wide {
		if len(wide) > 1 || size < 1 || size > 16 {
			return false
		}
	}
	known := signs['.'] + signs['#'] + signs['S'] + signs['G']
	return len(rowsIn(text)) <= 16 && known == len(courseOf(text)) && signs['S'] == 1 && signs['G'] > 0
}

// smallTexts returns all texts of some signs for the squares of a size.
func smallTexts(wide, high int, signs string) []string {
	texts := []string{""}
	for place := range wide * high {
		var longer []string
		for _, text := range texts {
			if place > 0 && place%wide == 0 {
				text += "/"
			}
			for _, sign := range signs {
				longer = append(longer, text+string(sign))
			}
		}
		texts = longer
	}
	return texts
}

// smallTracks returns all tracks of some small sizes.
func smallTracks() []string {
	var tracks []string
	for _, size := range []square{{1, 1}, {2, 1}, {1, 2}, {3, 1}, {1, 3}, {4, 1}, {1, 4}, {2, 2}, {5, 1}} {
		tracks = append(tracks, smallTexts(size.x, size.y, ".#SG")...)
	}
	return slices.DeleteFunc(tracks, func(text string) bool { return !isTrackText(text) })
}

// drawnTracks returns tracks of sides from least to most, with walls on so many of ten squares.
func drawnTracks(seed dice, count int, least, most, walls int64) []string {
	d := &seed
	var tracks []string
	for len(tracks) < count {
		wide, high := least+d.below(most-least+1), least+d.below(most-least+1)
		var squares []byte
		for range wide * high {
			squares = append(squares, ".#"[min(1, max(0, d.below(10)-9+walls))])
		}
		for range 1 + d.below(3) {
			squares[d.below(wide*high)] = 'G'
		}
		squares[d.below(wide*high)] = 'S'
		text := ""
		for row := range slices.Chunk(squares, int(wide)) {
			text += "/" + string(row)
		}
		if isTrackText(text[1:]) {
			tracks = append(tracks, text[1:])
		}
	}
	return tracks
}

// manyTracks returns tracks of all sizes.
func manyTracks() []string {
	return slices.Concat(knownTracks(), plainTracks(), smallTracks(), drawnTracks(8, 60, 2, 6, 2), drawnTracks(18, 60, 3, 8, 3), drawnTracks(28, 40, 4, 10, 4), drawnTracks(38, 4, 14, 16, 2))
}

// badTracks returns some of each kind of what is not a track.
func badTracks() map[string][]string {
	bad := map[string][]string{
		"no list": nil, "no rows": {}, "one row without bytes": {""}, "rows without bytes": {"", ""}, "17 rows without bytes": slices.Repeat([]string{""}, 17),
		"a row without bytes in front": {"", "SG"}, "a row without bytes behind": {"SG", ""}, "a shorter row": {"S.G", ".."}, "a shorter row in front": {"..", "S.G"},
		"a longer row": {"SG", "..."}, "a longer row in front": {"...", "SG"}, "a row of another length between": {"SG", ".", ".."}, "rows of other lengths": {"SG", ".", "..."},
		"no start": {"..G"}, "no start in two rows": {"..", ".G"}, "two starts": {"SSG"}, "starts in two rows": {"S.", "SG"}, "many starts": {"SSSSSSG"},
		"no goal": {"S.."}, "no goal in two rows": {"S.", ".."}, "only a start": {"S"}, "only a goal": {"G"}, "only a free square": {"."}, "only a wall": {"#"}, "neither start nor goal": {"...", "###"},
		"17 bytes": {"S" + strings.Repeat(".", 15) + "G"}, "17 bytes in two rows": {"S" + strings.Repeat(".", 15) + "G", strings.Repeat(".", 17)},
		"17 rows": append(slices.Repeat([]string{".."}, 16), "SG"), "17 rows of one byte": append(slices.Repeat([]string{"."}, 15), "S", "G"),
		"a start behind 16 rows": append([]string{"G"}, append(slices.Repeat([]string{"."}, 15), "S")...), "256 bytes": {"SG" + strings.Repeat(".", 254)}, "258 bytes": {"SG" + strings.Repeat(".", 256)},
		"256 rows": append(slices.Repeat([]string{".."}, 255), "SG"), "257 rows": append(slices.Repeat([]string{".."}, 256), "SG"),
		"rows with `/`": {"S./.G"}, "rows with newlines": {"S.\n", ".G\n"}, "a letter of two bytes": {"Sé.G"}, "a wide dot": {"S․G"},
	}
	for sign := range 256 {
		if !strings.ContainsRune(".#SG", rune(sign)) {
			for _, text := range []string{"?SG", "S?G", "SG?", "?.S/..G", "SG./..?", "S.G/.?."} {
				rows := rowsIn(text)
				for y, row := range rows {
					rows[y] = strings.ReplaceAll(row, "?", string([]byte{byte(sign)}))
				}
				bad[fmt.Sprintf("the sign %d in %s", sign, text)] = rows
			}
		}
	}
	return bad
}

func TestTrackConstants(t *testing.T) {
	if impl.MaxWidth != 16 || impl.MaxSpeed != 5 || impl.MaxTrack != 20 {
		t.Errorf("MaxWidth, MaxSpeed, MaxTrack are %d, %d, %d", impl.MaxWidth, impl.MaxSpeed, impl.MaxTrack)
	}
}

func TestIsTrack(t *testing.T) {
	for _, text := range manyTracks() {
		if !impl.IsTrack(rowsIn(text)) {
			t.Errorf("%s is a track", text)
		}
	}
	for name, rows := range badTracks() {
		if impl.IsTrack(rows) {
			t.Errorf("%s: %q is no track", name, rows)
		}
	}
	tracks := map[bool]int{}
	for _, size := range []square{{1, 1}, {1, 2}, {2, 1}, {3, 1}, {1, 3}, {2, 2}, {4, 1}} {
		for _, text := range smallTexts(size.x, size.y, ".#SG sg") {
			want := isTrackText(text)
			if got := impl.IsTrack(rowsIn(text)); got != want {
				t.Errorf("IsTrack of %s = %v", text, got)
			}
			tracks[want]++
		}
	}
	if tracks[true] < 100 || tracks[false] < 1000 {
		t.Errorf("small texts are tracks, or not: %v", tracks)
	}
}

// wantNothingOfCar checks that the functions of a car, and a move, return an error, and zero values
// beside it.
func wantNothingOfCar(t *testing.T, rows []string, car impl.Car, move, want int64) {
	t.Helper()
	what := fmt.Sprintf("of %q, %v", rows, car)
	moves, code := impl.OpenMoves(rows, car)
	wantNoList(t, "OpenMoves "+what, moves, code, want)
	stops, code := impl.CanStop(rows, car)
	wantValue(t, "CanStop "+what, stops, code, false, want)
	wantNothingOfMove(t, rows, car, move, want)
}

func wantNothingOfMove(t *testing.T, rows []string, car impl.Car, move, want int64) {
	t.Helper()
	what := fmt.Sprintf("of %q, %v, %d", rows, car, move)
	squares, code := impl.CrossedSquares(rows, car, move)
	wantNoList(t, "CrossedSquares "+what, squares, code, want)
	behind, code := impl.MoveCar(rows, car, move)
	wantValue(t, "MoveCar "+what, behind, code, impl.Car{}, want)
}

// wantNoDrive checks that DriveRoute returns an error, and the zero value beside it.
func wantNoDrive(t *testing.T, rows []string, moves []int64, want int64) {
	t.Helper()
	car, code := impl.DriveRoute(rows, moves)
	wantValue(t, fmt.Sprintf("DriveRoute of %q, %v", rows, moves), car, code, impl.Car{}, want)
}

// wantNoWinner checks that RaceWinner returns an error, and 0 beside it.
func wantNoWinner(t *testing.T, rows []string, blinks, others []int64, want int64) {
	t.Helper()
	winner, code := impl.RaceWinner(rows, blinks, others)
	wantValue(t, fmt.Sprintf("RaceWinner of %q, %v, %v", rows, blinks, others), winner, code, 0, want)
}

// wantNoRoute checks that the functions of a track return an error, and zero values beside it.
func wantNoRoute(t *testing.T, rows []string, want int64) {
	t.Helper()
	fewest, code := impl.FewestToGoal(rows)
	wantValue(t, fmt.Sprintf("FewestToGoal of %q", rows), fewest, code, 0, want)
	route, code := impl.FirstRoute(rows)
	wantNoList(t, fmt.Sprintf("FirstRoute of %q", rows), route, code, want)
}

// ErrInvalid comes before all other errors, whatever is beside the rows.
func TestTracksInvalidComesFirst(t *testing.T) {
	for name, bad := range badTracks() {
		car, code := impl.FirstCar(bad)
		wantValue(t, name+": FirstCar", car, code, impl.Car{}, impl.ErrInvalid)
		wantNoRoute(t, bad, impl.ErrInvalid)
		for _, number := range []int64{0, 1, 8, 12, 20, -1, 9, 13, 21, leastInt, greatestInt} {
			wantNothingOfCar(t, bad, impl.Car{}, number, impl.ErrInvalid)
			wantNothingOfCar(t, bad, impl.Car{number, 0, 0, number}, number, impl.ErrInvalid)
			squares, code := impl.SquaresReached(bad, number)
			wantValue(t, name+": SquaresReached", squares, code, 0, impl.ErrInvalid)
			routes, code := impl.CountRoutes(bad, number)
			wantValue(t, name+": CountRoutes", routes, code, 0, impl.ErrInvalid)
			for _, list := range [][]int64{nil, {number}, {8, number}, repeat(4, 21)} {
				wantNoDrive(t, bad, list, impl.ErrInvalid)
				wantNoWinner(t, bad, list, nil, impl.ErrInvalid)
				wantNoWinner(t, bad, nil, list, impl.ErrInvalid)
				wantNoWinner(t, bad, list, list, impl.ErrInvalid)
			}
		}
	}
}

func TestFirstCar(t *testing.T) {
	for text, want := range map[string]impl.Car{"SG": {}, "GS": {1}, "G/S": {0, 1}, "..G/.../..S": {2, 2}, plainTrack(16, 16, square{15, 14}, square{0, 0}): {15, 14}} {
		car, code := impl.FirstCar(rowsIn(text))
		wantValue(t, "FirstCar of "+text, car, code, want, impl.ErrNone)
	}
	for _, text := range manyTracks() {
		car, code := impl.FirstCar(rowsIn(text))
		wantValue(t, "FirstCar of "+text, car, code, courseOf(text).start().car(), impl.ErrNone)
	}
}

// strangeCars returns what is not a car of a track: a car that is one, with numbers that are not.
func strangeCars(text string) []impl.Car {
	rows := rowsIn(text)
	car := courseOf(text).start().car()
	with := func(place int, number int64) impl.Car {
		other := car
		other[place] = number
		return other
	}
	wide, high := int64(len(rows[0])), int64(len(rows))
	cars := []impl.Car{with(0, wide), with(1, high), with(0, wide+1), with(1, high+1), {wide, high}, {wide, high, 5, 5}}
	for place := range 4 {
		for _, number := range []int64{-1, 16, 17, -2, 255, 256, 1 << 32, -1 << 32, leastInt, leastInt + 1, greatestInt, greatestInt - 1} {
			if place < 2 || number < -5 || number > 5 {
				cars = append(cars, with(place, number))
			}
		}
	}
	for _, speed := range []int64{6, -6, 7, -7, 11, -11, 121} {
		cars = append(cars, with(2, speed), with(3, speed), impl.Car{car[0], car[1], speed, speed}, impl.Car{car[0], car[1], speed, -speed})
	}
	for at, sign := range courseOf(text) {
		if sign == '#' {
			cars = append(cars, driver{at: at}.car(), driver{at, square{1, 1}}.car())
		}
	}
	return cars
}

func TestCarsOutOfRange(t *testing.T) {
	for _, text := range knownTracks() {
		rows := rowsIn(text)
		for _, car := range strangeCars(text) {
			for _, move := range []int64{0, 4, 8, -1, 9, leastInt, greatestInt} {
				wantNothingOfCar(t, rows, car, move, impl.ErrRange)
			}
		}
	}
}

// ErrRange comes before ErrState: the first car in a corner has moves that are not open.
func TestCarMovesOutOfRange(t *testing.T) {
	for _, text := range knownTracks() {
		rows := rowsIn(text)
		car := courseOf(text).start().car()
		for _, move := range []int64{-1, 9, -2, 10, -9, 17, 256, 256 + 4, -256 + 4, 1 << 32, 1<<32 + 4, leastInt, leastInt + 4, greatestInt} {
			wantNothingOfMove(t, rows, car, move, impl.ErrRange)
			wantNoDrive(t, rows, []int64{move}, impl.ErrRange)
			wantNoDrive(t, rows, []int64{4, move}, impl.ErrRange)
			wantNoDrive(t, rows, []int64{move, 4}, impl.ErrRange)
			for first := range int64(9) {
				wantNoDrive(t, rows, []int64{first, 8, 8, 8, 8, 8, 8, move}, impl.ErrRange)
			}
		}
	}
}

// steps returns squares as lists of two numbers, written down.
func steps(squares []square) string {
	text := ""
	for _, at := range squares {
		text += fmt.Sprintf("[%d %d]", at.x, at.y)
	}
	return text
}

func listsText(lists [][]int64) string {
	text := ""
	for _, list := range lists {
		text += fmt.Sprint(list)
	}
	return text
}

func TestCrossedSquaresByHand(t *testing.T) {
	// The move 4 keeps the speeds; so the car starts with those that it has under way.
	tests := map[square]string{
		{0, 0}: "", {1, 0}: "", {0, -1}: "", {1, 1}: "", {-1, 1}: "",
		{2, 0}: "[9 8]", {-2, 0}: "[7 8]", {0, 2}: "[8 9]", {0, -2}: "[8 7]", {2, 2}: "[9 9]", {-2, 2}: "[7 9]", {2, -2}: "[9 7]", {-2, -2}: "[7 7]",
		// Halves become the greater number, with either sign.
		{2, 1}: "[9 9]", {2, -1}: "[9 8]", {-2, 1}: "[7 9]", {-2, -1}: "[7 8]", {1, 2}: "[9 9]", {-1, 2}: "[8 9]", {1, -2}: "[9 7]", {-1, -2}: "[8 7]",
		{3, 0}: "[9 8][10 8]", {-3, 0}: "[7 8][6 8]", {0, -3}: "[8 7][8 6]", {3, 3}: "[9 9][10 10]",
		{3, 1}: "[9 8][10 9]", {3, -1}: "[9 8][10 7]", {-3, 1}: "[7 8][6 9]", {3, 2}: "[9 9][10 9]", {3, -2}: "[9 7][10 7]", {1, 3}: "[8 9][9 10]", {-2, 3}: "[7 9][7 10]",
		{4, 1}: "[9 8][10 9][11 9]", {4, -1}: "[9 8][10 8][11 7]", {-4, -1}: "[7 8][6 8][5 7]", {4, 2}: "[9 9][10 9][11 10]", {4, -2}: "[9 8][10 7][11 7]", {-2, 4}: "[8 9][7 10][7 11]", {4, 3}: "[9 9][10 10][11 10]", {4, -3}: "[9 7][10 7][11 6]", {4, 4}: "[9 9][10 10][11 11]",
		{5, 0}: "[9 8][10 8][11 8][12 8]", {5, 1}: "[9 8][10 8][11 9][12 9]", {5, 2}: "[9 8][10 9][11 9][12 10]", {5, -2}: "[9 8][10 7][11 7][12 6]", {5, 3}: "[9 9][10 9][11 10][12 10]", {-3, -5}: "[7 7][7 6][6 5][6 4]", {5, 4}: "[9 9][10 10][11 10][12 11]", {-5, -5}: "[7 7][6 6][5 5][4 4]",
	}
	rows := rowsIn(plainTrack(16, 16, square{0, 0}, square{15, 15}))
	for pace, want := range tests {
		squares, code := impl.CrossedSquares(rows, driver{square{8, 8}, pace}.car(), 4)
		wantValue(t, fmt.Sprint("CrossedSquares at ", pace), listsText(squares), code, want, impl.ErrNone)
	}
}

// Squares are crossed off the track, on walls, on the start and on goals, and also by moves that are
// too fast.
func TestCrossedSquaresAnywhere(t *testing.T) {
	tests := []struct {
		text string
		car  impl.Car
		move int64
		want string
	}{
		{"S.G", impl.Car{0, 0, 1, 0}, 7, "[1 0]"},
		{"S.G", impl.Car{0, 0, 2, 0}, 7, "[1 0][2 0]"},
		{"S.G", impl.Car{2, 0, 1, 0}, 7, "[3 0]"},
		{"S.G", impl.Car{0, 0, -3, 0}, 4, "[-1 0][-2 0]"},
		{"S.G", impl.Car{1, 0, 0, 5}, 5, "[1 1][1 2][1 3][1 4][1 5]"},
		{"S.G", impl.Car{1, 0, -5, -5}, 0, "[0 -1][-1 -2][-2 -3][-3 -4][-4 -5]"},
		{"S.G", impl.Car{1, 0, 5, 5}, 8, "[2 1][3 2][4 3][5 4][6 5]"},
		{"S.G", impl.Car{1, 0, -5, 2}, 2, "[0 1][-1 1][-2 2][-3 2][-4 3]"},
		{".S.G", impl.Car{0, 0, 2, 0}, 4, "[1 0]"},
		{"S#.G", impl.Car{0, 0, 2, 0}, 4, "[1 0]"},
		{"S.G.", impl.Car{1, 0, 2, 0}, 4, "[2 0]"},
	}
	for _, test := range tests {
		squares, code := impl.CrossedSquares(rowsIn(test.text), test.car, test.move)
		wantValue(t, fmt.Sprint("CrossedSquares of ", test.text, test.car, test.move), listsText(squares), code, test.want, impl.ErrNone)
	}
}

func TestOpenMovesByHand(t *testing.T) {
	tests := []struct {
		text string
		car  impl.Car
		want []int64
	}{
		{"S.G", impl.Car{}, []int64{4, 7}},
		{"S.G", impl.Car{1, 0, 0, 0}, []int64{1, 4, 7}},
		{"S.G", impl.Car{0, 0, 1, 0}, []int64{1, 4, 7}},
		{"S.G", impl.Car{0, 0, 3, 0}, []int64{1}},
		{"S.G", impl.Car{0, 0, 4, 0}, nil},
		{"S.G", impl.Car{2, 0, 1, 0}, []int64{1}},
		{"S.G", impl.Car{2, 0, 2, 0}, nil},
		{"S.G", impl.Car{1, 0, 0, 1}, []int64{0, 3, 6}},
		{"S.G", impl.Car{1, 0, 0, -1}, []int64{2, 5, 8}},
		{"S.G", impl.Car{1, 0, 0, 2}, nil},
		{".../.S./..G", impl.Car{1, 1, 0, 0}, upTo(0, 8)},
		{".../.S./#.G", impl.Car{1, 1, 0, 0}, []int64{0, 1, 3, 4, 5, 6, 7, 8}},
		{"G../.S./...", impl.Car{1, 1, 1, -1}, []int64{1, 2, 4, 5}},
		// Walls and ends of the track under way; a goal and the start are free.
		{"S#.G", impl.Car{0, 0, 1, 0}, []int64{1}},
		{"S.#..G", impl.Car{0, 0, 3, 0}, nil},
		{".S..G.", impl.Car{0, 0, 3, 0}, []int64{1, 4, 7}},
		{"...G..S", impl.Car{6, 0, -4, 0}, []int64{1, 4, 7}},
		{"G.../.S#./....", impl.Car{0, 0, 1, 1}, []int64{0, 1, 2, 3, 4, 5, 6, 8}},
		// Speeds do not become greater than MaxSpeed.
		{plainTrack(16, 1, square{0, 0}, square{15, 0}), impl.Car{0, 0, 5, 0}, []int64{1, 4}},
		{plainTrack(16, 1, square{0, 0}, square{15, 0}), impl.Car{15, 0, -5, 0}, []int64{4, 7}},
		{plainTrack(1, 16, square{0, 0}, square{0, 15}), impl.Car{0, 0, 0, 5}, []int64{3, 4}},
		{plainTrack(1, 16, square{0, 0}, square{0, 15}), impl.Car{0, 15, 0, -5}, []int64{4, 5}},
		{plainTrack(16, 16, square{0, 0}, square{15, 15}), impl.Car{0, 15, 5, -5}, []int64{1, 2, 4, 5}},
		{plainTrack(16, 16, square{0, 0}, square{15, 15}), impl.Car{0, 0, 5, 5}, []int64{0, 1, 3, 4}},
		{plainTrack(16, 16, square{0, 0}, square{15, 15}), impl.Car{8, 8, 5, 0}, []int64{0, 1, 2, 3, 4, 5}},
		{plainTrack(16, 16, square{0, 0}, square{15, 15}), impl.Car{8, 8, 4, -4}, upTo(0, 8)},
	}
	for _, test := range tests {
		moves, code := impl.OpenMoves(rowsIn(test.text), test.car)
		wantList(t, fmt.Sprint("OpenMoves of ", test.text, test.car), moves, code, test.want)
	}
}

func TestCanStopByHand(t *testing.T) {
	tests := []struct {
		text string
		car  impl.Car
		want bool
	}{
		{"SG", impl.Car{}, true},              // at once
		{"SG", impl.Car{1, 0, 0, 0}, true},    // on a goal
		{"SG", impl.Car{1, 0, 1, 0}, true},    // behind one move
		{"SG", impl.Car{1, 0, -1, -1}, true},  // without going on
		{"SG", impl.Car{0, 0, 2, 0}, true},    // behind two
		{"SG", impl.Car{1, 0, 2, 0}, false},   // there is no room
		{"SG", impl.Car{0, 0, 0, 2}, false},   // not even for one more move
		{"SG", impl.Car{0, 0, 3, 0}, false},   // too fast
		{"S.G", impl.Car{0, 0, 3, 0}, false},  // only one move is open, and then none
		{"S..G", impl.Car{0, 0, 3, 0}, true},  // 2, 1, and 0
		{"S.#G", impl.Car{0, 0, 3, 0}, false}, // a wall
		{"S..#G", impl.Car{0, 0, 3, 0}, false},
		{"SG..#", impl.Car{0, 0, 3, 0}, true}, // over a goal
		{"#.GS", impl.Car{3, 0, -3, 0}, false},
		{".GS.", impl.Car{3, 0, -3, 0}, true},
		{plainTrack(16, 1, square{0, 0}, square{15, 0}), impl.Car{5, 0, 5, 0}, true},
		{plainTrack(16, 1, square{0, 0}, square{15, 0}), impl.Car{6, 0, 5, 0}, false},
		{plainTrack(1, 16, square{0, 0}, square{0, 15}), impl.Car{0, 10, 0, -5}, true},
		{plainTrack(1, 16, square{0, 0}, square{0, 15}), impl.Car{0, 9, 0, -5}, false},
		{plainTrack(16, 16, square{0, 0}, square{15, 15}), impl.Car{5, 10, 5, -5}, true},
		{plainTrack(16, 16, square{0, 0}, square{15, 15}), impl.Car{6, 10, 5, -5}, false},
		{"S....G/...###/...###/...###", impl.Car{0, 0, 2, 3}, true},
		{"S..#G/...##/...##/....#", impl.Car{0, 0, 3, 3}, true},
		{"S..#G/...##/...##/...##", impl.Car{0, 0, 3, 3}, false}, // a slanting way that is shut at its end
	}
	for _, test := range tests {
		stops, code := impl.CanStop(rowsIn(test.text), test.car)
		wantValue(t, fmt.Sprint("CanStop of ", test.text, test.car), stops, code, test.want, impl.ErrNone)
	}
}

// carKinds counts how many cars and moves of each kind have been looked at.
type carKinds map[string]int

func (kinds carKinds) want(t *testing.T, least int, names ...string) {
	t.Helper()
	for _, name := range names {
		if kinds[name] < least {
			t.Errorf("only %d times: %s", kinds[name], name)
		}
	}
}

func (kinds carKinds) add(c course, d driver) {
	kinds[fmt.Sprint(len(c.open(d)), " open moves")]++
	for _, change := range changes {
		next := driver{d.at.plus(d.pace).plus(change), d.pace.plus(change)}
		kinds[fmt.Sprint(len(next.under()), " crossed")]++
		for _, at := range next.under() {
			sign, there := c[at]
			if !there {
				sign = '-'
			}
			kinds["crossed "+string(sign)]++
			if there && sign != '#' && next.pace.greater() <= 5 && c.isFree(next.at) && !c.isOpen(next) {
				kinds["stopped under way"]++
			}
		}
	}
}

// checkDriver compares what is told of a car with the course.
func checkDriver(t *testing.T, text string, c course, d driver) {
	t.Helper()
	rows, car := rowsIn(text), d.car()
	what := fmt.Sprint(" of ", text, car)
	open := c.open(d)
	moves, code := impl.OpenMoves(rows, car)
	wantList(t, "OpenMoves"+what, moves, code, open)
	for move := range int64(9) {
		next := d.behind(move)
		squares, code := impl.CrossedSquares(rows, car, move)
		wantValue(t, fmt.Sprint("CrossedSquares", what, move), listsText(squares), code, steps(next.under()), impl.ErrNone)
		behind, code := impl.MoveCar(rows, car, move)
		if slices.Contains(open, move) {
			wantValue(t, fmt.Sprint("MoveCar", what, move), behind, code, next.car(), impl.ErrNone)
		} else {
			wantValue(t, fmt.Sprint("MoveCar", what, move), behind, code, impl.Car{}, impl.ErrState)
		}
	}
	stops, code := impl.CanStop(rows, car)
	wantValue(t, "CanStop"+what, stops, code, c.canStop(d, map[driver]bool{}), impl.ErrNone)
}

func TestCarsAgainstCourses(t *testing.T) {
	var d dice = 48
	kinds := carKinds{}
	for _, text := range manyTracks() {
		c := courseOf(text)
		drivers := c.drivers()
		for k := range drivers {
			// All cars of small tracks, and some of the larger ones.
			if len(drivers) > 121 && d.below(int64(len(drivers))) > 40 {
				continue
			}
			checkDriver(t, text, c, drivers[k])
			kinds.add(c, drivers[k])
			stops := c.canStop(drivers[k], map[driver]bool{})
			kinds[fmt.Sprint("stands ", drivers[k].pace == square{}, ", stops ", stops, ", moves ", len(c.open(drivers[k])) > 0)]++
		}
	}
	for n := range 10 {
		if n != 7 {
			kinds.want(t, 3, fmt.Sprint(n, " open moves"))
		}
	}
	for n := range 6 {
		kinds.want(t, 100, fmt.Sprint(n, " crossed"))
	}
	kinds.want(t, 100, "crossed -", "crossed #", "crossed .", "crossed S", "crossed G", "stopped under way")
	kinds.want(t, 20, "stands true, stops true, moves true", "stands false, stops true, moves true", "stands false, stops false, moves true", "stands false, stops false, moves false")
}

// All moves of all cars in one place of a large track, so all speeds and both signs.
func TestCarsOfAllSpeeds(t *testing.T) {
	for _, text := range []string{plainTrack(16, 16, square{8, 9}, square{9, 8}), plainTrack(11, 13, square{5, 6}, square{6, 6})} {
		c := courseOf(text)
		for _, d := range c.drivers() {
			if c[d.at] != '.' || d.at == (square{7, 7}) {
				checkDriver(t, text, c, d)
			}
		}
	}
}

func TestRoutesByHand(t *testing.T) {
	tests := []struct {
		text string
		want string
	}{
		{"SG", "7"}, {"GS", "1"}, {"S/G", "5"}, {"G/S", "3"}, {"S#/#G", "8"}, {"#S/G#", "2"}, {"G#/#S", "0"}, {"#G/S#", "6"},
		{"S.G", "7 4"}, {"GSG", "1"}, {"SGG", "7"}, {"S..G", "7 7"}, {"S...G", "7 4 7"}, {"..S...G", "7 4 7"}, {"G...S", "1 1 7"},
		{"S.G...", "7 4"}, {"S...G....", "7 4 7"}, {"S......G", "7 4 7 7"},
		// A slanting move passes between two walls.
		{"S.#/..#/##G", "8 4"}, {"S.#/..#/#.#/##G", "5 7 4"},
		// Of several routes the first one, to whatever goal it leads.
		{".../.S./GGG", "2"}, {"G.G/.S./G.G", "0"}, {"S../.../..G", "8 4"}, {"S../..G", "7 5"}, {"..G/S..", "6 5"}, {"S..G/....", "7 7"},
		{"G..../..S../....G", "0 5"}, {"..S..G/......", "7 7"},
		{"S......./.......G", "7 4 7 8"},
	}
	for _, test := range tests {
		rows, want := rowsIn(test.text), numbers(test.want)
		route, code := impl.FirstRoute(rows)
		wantList(t, "FirstRoute of "+test.text, route, code, want)
		fewest, code := impl.FewestToGoal(rows)
		wantValue(t, "FewestToGoal of "+test.text, fewest, code, int64(len(want)), impl.ErrNone)
	}
}

// closedTracks are tracks without a route.
var closedTracks = []string{"S#G", "S/#/G", "S..#G/...##/.....", "S##/##G", "#####/#S#G#/#####", "G#S#G", "S#GG"}

func TestTracksWithoutRoutes(t *testing.T) {
	for _, text := range closedTracks {
		wantNoRoute(t, rowsIn(text), impl.ErrNotFound)
	}
}

// The functions of a track without other arguments against the second way, and the first route of
// each number of moves, so of those that ways to goals need.
func TestRoutesAgainstCourses(t *testing.T) {
	fewest, goals := map[int]int{}, map[int]int{}
	for _, text := range manyTracks() {
		c := courseOf(text)
		list := c.ahead(c.start())
		if list == nil {
			wantNoRoute(t, rowsIn(text), impl.ErrNotFound)
			fewest[0]++
			continue
		}
		route, code := impl.FirstRoute(rowsIn(text))
		wantList(t, "FirstRoute of "+text, route, code, list)
		number, code := impl.FewestToGoal(rowsIn(text))
		wantValue(t, "FewestToGoal of "+text, number, code, int64(len(list)), impl.ErrNone)
		fewest[min(len(list), 7)]++
		goals[min(strings.Count(text, "G"), 3)]++
	}
	for n := range 8 {
		if fewest[n] < 2 || n > 0 && n < 4 && goals[n] < 20 {
			t.Fatalf("numbers of fewest moves are %v, and of goals %v", fewest, goals)
		}
	}
}

// Of all lists of moves, the routes are those that DriveRoute can drive, and that go to a goal with
// the last move only.
func TestRoutesAgainstAllLists(t *testing.T) {
	several := 0
	for _, text := range []string{"S.G", "SG", ".../.S./GGG", "G.G/.S./G.G", "G#./.S./..G", "S.G..", "..S..G/......", "S../.../..G", "S#G", "..S#G/.#.../.....", "G...S...G", "....../S....G/......"} {
		rows, c := rowsIn(text), courseOf(text)
		lists := [][]int64{{}}
		var fewest [][]int64
		for k := range int64(4) {
			var longer, routes [][]int64
			for _, list := range lists {
				for move := range int64(9) {
					more := append(slices.Clone(list), move)
					car, code := impl.DriveRoute(rows, more)
					if code == impl.ErrNone && c[square{int(car[0]), int(car[1])}] == 'G' {
						routes = append(routes, more)
					} else if code == impl.ErrNone {
						longer = append(longer, more)
					}
				}
			}
			count, code := impl.CountRoutes(rows, k+1)
			wantValue(t, fmt.Sprint("CountRoutes of ", text, k+1), count, code, int64(len(routes)), impl.ErrNone)
			if fewest == nil && routes != nil {
				fewest = routes
				wantList(t, "FirstRoute of "+text, first(impl.FirstRoute(rows)), impl.ErrNone, slices.MinFunc(routes, slices.Compare))
			}
			lists = longer
		}
		if len(fewest) > 1 {
			several++
		}
	}
	if several < 4 {
		t.Errorf("only %d tracks have several routes with the fewest moves", several)
	}
}

func TestDriveRouteByHand(t *testing.T) {
	tests := []struct {
		text, moves string
		want        impl.Car
	}{
		{"S.G", "", impl.Car{}}, {"G.S", "", impl.Car{2}}, {"G/./S", "", impl.Car{0, 2}},
		{"S.G", "4", impl.Car{}}, {"S.G", "7", impl.Car{1, 0, 1}}, {"S.G", "7 4", impl.Car{2, 0, 1}}, {"S.G", "7 1", impl.Car{1}}, {"S.G", "7 4 1", impl.Car{2}}, {"S.G", "7 4 1 1 4", impl.Car{0, 0, -1}},
		{"S.G..", "7 7", impl.Car{3, 0, 2}},     // over a goal
		{"S.G..", "7 4 4", impl.Car{3, 0, 1}},   // on behind a goal
		{"S.G..", "7 4 4 4", impl.Car{4, 0, 1}}, // and on
		{"SG", "7 1 1", impl.Car{0, 0, -1}},     // and back
		{"S./.G", "8 0 0 8 5 6", impl.Car{1, 1, 1, 0}},
		{"S..............G", "7 7 7 1 1 4", impl.Car{10, 0, 1}},
		{"S..............G", "7 7 7 7 7", impl.Car{15, 0, 5}},
	}
	for _, test := range tests {
		car, code := impl.DriveRoute(rowsIn(test.text), numbers(test.moves))
		wantValue(t, "DriveRoute of "+test.text+" "+test.moves, car, code, test.want, impl.ErrNone)
	}
}

// Moves that are not open are so in each place of a list, also behind MaxTrack - 1 others.
func TestDriveRouteState(t *testing.T) {
	for _, text := range []string{"S.G", "SG", "S#G", "S/G", "S./#G"} {
		rows := rowsIn(text)
		for before := range 20 {
			still := repeat(4, before)
			car, code := impl.DriveRoute(rows, still)
			wantValue(t, fmt.Sprint("DriveRoute of ", text, still), car, code, impl.Car{}, impl.ErrNone)
			for _, shut := range []int64{0, 1, 2, 3, 6} {
				wantNoDrive(t, rows, append(still, shut), impl.ErrState)
			}
		}
		wantNoDrive(t, rows, []int64{0, 8}, impl.ErrState)
		wantNoDrive(t, rows, append([]int64{1}, repeat(4, 19)...), impl.ErrState)
	}
	wantNoDrive(t, rowsIn("SG"), []int64{7, 4}, impl.ErrState)
	wantNoDrive(t, rowsIn("S.#G"), []int64{7, 4}, impl.ErrState)
	wantNoDrive(t, rowsIn("S.#G"), []int64{7, 7}, impl.ErrState)
	wantNoDrive(t, rowsIn(plainTrack(16, 1, square{0, 0}, square{15, 0})), repeat(7, 6), impl.ErrState)
}

// A list of more than MaxTrack moves is out of range, whatever its moves are.
func TestDriveRouteLength(t *testing.T) {
	for _, text := range knownTracks() {
		rows := rowsIn(text)
		car := courseOf(text).start().car()
		got, code := impl.DriveRoute(rows, repeat(4, 20))
		wantValue(t, "DriveRoute with 20 moves of "+text, got, code, car, impl.ErrNone)
		for _, moves := range [][]int64{repeat(4, 21), repeat(4, 22), repeat(4, 300), repeat(0, 21), repeat(8, 21), repeat(9, 21), append(repeat(4, 20), 9)} {
			wantNoDrive(t, rows, moves, impl.ErrRange)
		}
	}
}

func TestDriveRouteAgainstCourses(t *testing.T) {
	var d dice = 58
	ends := map[string]int{}
	for _, text := range manyTracks() {
		c := courseOf(text)
		for range 5 {
			car, code := c.start(), int64(impl.ErrNone)
			var moves []int64
			for range d.below(21) {
				open := c.open(car)
				if len(open) == 0 {
					break
				}
				move := open[d.below(int64(len(open)))]
				if d.below(40) == 0 {
					move = d.below(9)
				}
				if !slices.Contains(open, move) {
					code = impl.ErrState
				}
				moves = append(moves, move)
				car = car.behind(move)
			}
			if code == impl.ErrNone {
				got, code := impl.DriveRoute(rowsIn(text), moves)
				wantValue(t, fmt.Sprint("DriveRoute of ", text, moves), got, code, car.car(), impl.ErrNone)
			} else {
				wantNoDrive(t, rowsIn(text), moves, code)
			}
			ends[fmt.Sprint(code, len(moves)/10)]++
		}
	}
	if ends["0 0"] < 50 || ends["0 1"] < 50 || ends["0 2"] < 5 || ends["5 1"] < 5 {
		t.Errorf("codes and lengths are %v", ends)
	}
}

func TestSquaresReachedByHand(t *testing.T) {
	tests := []struct {
		text string
		k    int64
		want int64
	}{
		{"S.G", 0, 1}, {"S.G", 1, 2}, {"S.G", 2, 3}, {"S.G", 3, 3}, {"S.G", 20, 3},
		{"SG", 0, 1}, {"SG", 1, 2}, {"SG", 20, 2}, {"S#G", 0, 1}, {"S#G", 20, 1},
		{".../.S./..G", 0, 1}, {".../.S./..G", 1, 9}, {".../.S./..G", 20, 9},
		// One square with the first move, up to two more with the second one, and so on.
		{"S..............G", 1, 2}, {"S..............G", 2, 4}, {"S..............G", 3, 7}, {"S..............G", 4, 11}, {"S..............G", 5, 16}, {"S..............G", 6, 16},
		// Squares behind a goal, and only those to which cars come.
		{"SG...", 1, 2}, {"SG...", 2, 4}, {"SG...", 3, 5}, {"S.#.G", 20, 2}, {"S../##./G..", 20, 7},
		{"S........./.........G", 1, 4},
	}
	for _, test := range tests {
		squares, code := impl.SquaresReached(rowsIn(test.text), test.k)
		wantValue(t, fmt.Sprint("SquaresReached of ", test.text, test.k), squares, code, test.want, impl.ErrNone)
	}
}

func TestSquaresReachedAgainstCourses(t *testing.T) {
	for n, text := range manyTracks() {
		most := 20
		if len(text) > 120 && n%3 > 0 {
			most = 6
		}
		for k, want := range courseOf(text).squaresBy(most) {
			squares, code := impl.SquaresReached(rowsIn(text), int64(k))
			wantValue(t, fmt.Sprint("SquaresReached of ", text, k), squares, code, want, impl.ErrNone)
		}
	}
}

// k is in 0..MaxTrack for squares, and in 1..12 for routes.
func TestTrackNumbersOutOfRange(t *testing.T) {
	for _, text := range append(closedTracks, knownTracks()...) {
		rows := rowsIn(text)
		for _, k := range []int64{-1, 21, -2, 22, -20, 256, 256 + 1, -256 + 1, 1 << 32, 1<<32 + 1, leastInt, leastInt + 1, greatestInt} {
			squares, code := impl.SquaresReached(rows, k)
			wantValue(t, fmt.Sprint("SquaresReached of ", text, k), squares, code, 0, impl.ErrRange)
		}
		for _, k := range []int64{0, 13, -1, 14, 20, 21, -12, 256, 256 + 1, -256 + 1, 1 << 32, 1<<32 + 1, leastInt, leastInt + 1, greatestInt} {
			routes, code := impl.CountRoutes(rows, k)
			wantValue(t, fmt.Sprint("CountRoutes of ", text, k), routes, code, 0, impl.ErrRange)
		}
	}
}

func TestCountRoutesByHand(t *testing.T) {
	tests := []struct {
		text string
		k    int64
		want int64
	}{
		{"SG", 1, 1}, {"S.G", 1, 0}, {"S.G", 2, 1}, {"GSG", 1, 2}, {"GGG/GSG/GGG", 1, 8}, {".../.S./GGG", 1, 3},
		// Only waiting on the start comes before the move to the goal, as no route goes on there.
		{"SG", 2, 1}, {"SG", 3, 1}, {"SG", 12, 1}, {"GSG", 12, 2}, {"GGG/GSG/GGG", 12, 8},
		// 4 7 4 and 7 1 7.
		{"S.G", 3, 2},
		{"S#G", 1, 0}, {"S#G", 12, 0},
		// The only fast way: 1 + 2 + 3 + 4 + 5 squares.
		{"S..............G", 4, 0}, {"S..............G", 5, 1},
		// No route goes on behind a goal, but 7 7 1 passes over the first one.
		{"SG.", 2, 1}, {"S.GG", 2, 2}, {"SGG", 2, 1}, {"S.G.G", 3, 3},
	}
	for _, test := range tests {
		routes, code := impl.CountRoutes(rowsIn(test.text), test.k)
		wantValue(t, fmt.Sprint("CountRoutes of ", test.text, test.k), routes, code, test.want, impl.ErrNone)
	}
}

func TestCountRoutesAgainstCourses(t *testing.T) {
	counts := map[string]int{}
	for _, text := range manyTracks() {
		most := 12
		if len(text) > 120 {
			most = 7
		}
		for k, want := range courseOf(text).routes(most) {
			if k == 0 {
				continue
			}
			routes, code := impl.CountRoutes(rowsIn(text), int64(k))
			wantValue(t, fmt.Sprint("CountRoutes of ", text, k), routes, code, want, impl.ErrNone)
			if k == 1 || k == 12 {
				counts[fmt.Sprint(k, min(want, 2))]++
			}
		}
	}
	for _, kind := range []string{"1 0", "1 1", "1 2", "12 0", "12 1", "12 2"} {
		if counts[kind] < 5 {
			t.Errorf("numbers of moves and of routes are %v", counts)
		}
	}
}

func TestCarRacesByHand(t *testing.T) {
	tests := []struct {
		text           string
		blinks, others []int64
		want           int64
	}{
		{"S.G", nil, nil, 0}, {"SG", nil, nil, 0},
		{"S.G", []int64{1}, nil, 1}, {"S.G", nil, []int64{1}, 0}, {"S.G", []int64{1}, []int64{1}, 0}, {"S.G", []int64{1, 2}, []int64{1}, 1}, {"S.G", []int64{1}, []int64{1, 2}, 0},
		{"S.G", []int64{2}, nil, 1}, {"S.G", []int64{2}, []int64{1}, 0}, {"S.G", []int64{1}, []int64{2}, 0}, {"S.G", []int64{1, 2}, []int64{2}, 1},
		// Behind the end of the race.
		{"S.G", []int64{3}, nil, 0}, {"S.G", upTo(3, 20), nil, 0}, {"S.G", []int64{20}, []int64{20}, 0}, {"S.G", []int64{1, 20}, []int64{3, 4}, 1},
		{"S.G", upTo(1, 20), upTo(1, 20), 0}, {"S.G", upTo(1, 20), upTo(1, 19), 1}, {"S.G", upTo(1, 19), upTo(1, 20), 0}, {"S.G", upTo(1, 20), upTo(2, 20), 1},
		{"SG", []int64{1}, nil, 1}, {"SG", []int64{1}, []int64{1}, 0}, {"SG", []int64{2}, nil, 0},
		// A car that has come far has lost its speeds behind a blink: of 1 + 2 + 3 + 4 + 5 squares it
		// makes the last five as 1 + 2 + 2.
		{"S..............G", []int64{5}, nil, 1}, {"S..............G", []int64{5}, []int64{1}, 1}, {"S..............G", []int64{5}, []int64{1, 2, 3}, 0}, {"S..............G", []int64{5}, []int64{1, 2}, 1},
		// A car needs 7 moves here. Behind a blink in the turn 2 or 4 it cannot move on as before, and
		// needs 9, but behind one in the turn 1, 3, 5 or 7 it needs 8.
		{"S..../####./####./####./G....", []int64{2}, []int64{1}, 1}, {"S..../####./####./####./G....", []int64{1}, []int64{2}, 0}, {"S..../####./####./####./G....", []int64{3}, []int64{7}, 0},
		{"S..../####./####./####./G....", []int64{4}, []int64{5}, 1}, {"S..../####./####./####./G....", []int64{5}, []int64{4}, 0}, {"S..../####./####./####./G....", []int64{2}, []int64{4}, 0},
	}
	for _, test := range tests {
		winner, code := impl.RaceWinner(rowsIn(test.text), test.blinks, test.others)
		wantValue(t, fmt.Sprint("RaceWinner of ", test.text, test.blinks, test.others), winner, code, test.want, impl.ErrNone)
	}
}

// drawnTurns returns numbers of turns, each one with the same probability of some in ten.
func (d *dice) drawnTurns(inTen int64) []int64 {
	return slices.DeleteFunc(upTo(1, 20), func(int64) bool { return d.below(10) >= inTen })
}

func TestCarRacesAgainstCourses(t *testing.T) {
	var d dice = 68
	races := map[string]int{}
	for _, text := range manyTracks() {
		c := courseOf(text)
		if c.ahead(c.start()) == nil || len(text) > 120 {
			continue
		}
		for k := range int64(8) {
			blinks, others := d.drawnTurns(k), d.drawnTurns(k*3/4)
			race := c.race(blinks, others)
			winner, code := impl.RaceWinner(rowsIn(text), blinks, others)
			wantValue(t, fmt.Sprint("RaceWinner of ", text, blinks, others), winner, code, race.winner, impl.ErrNone)
			races[fmt.Sprint("won by ", race.winner)]++
			races[fmt.Sprint("bent ", race.bent)]++
			races[fmt.Sprint("of tens of turns ", race.turns/10)]++
			races[fmt.Sprint("blinks behind the end ", slices.Max(append(blinks, 0)) > race.turns)]++
		}
	}
	for _, kind := range []string{"won by 0", "won by 1", "bent true", "bent false", "of tens of turns 0", "of tens of turns 1", "of tens of turns 2", "blinks behind the end true", "blinks behind the end false"} {
		if races[kind] < 10 {
			t.Errorf("only %d races are %s", races[kind], kind)
		}
	}
}

// Wrong blinks are out of range, also on a track without a route; right ones find none there.
func TestBlinksOutOfRange(t *testing.T) {
	wrong := [][]int64{
		{0}, {-1}, {21}, {22}, {0, 1}, {20, 21}, {-1, 1}, {1, 1}, {20, 20}, {2, 1}, {20, 1}, {1, 3, 2}, {1, 2, 2}, {1, 2, 1}, {2, 2, 3}, {1, 0}, {1, 21, 2}, {256}, {256 + 1}, {1 << 32}, {1<<32 + 1}, {leastInt}, {leastInt + 1}, {greatestInt}, {1, greatestInt}, {greatestInt, leastInt}, {1, leastInt},
		upTo(0, 20), upTo(1, 21), upTo(0, 19), repeat(1, 20), repeat(1, 21), append(upTo(1, 20), 20), append(upTo(1, 20), 1), slices.Repeat(upTo(1, 20), 2),
	}
	right := [][]int64{nil, {}, {1}, {20}, {1, 20}, {2, 3, 5, 7}, upTo(1, 20)}
	for _, text := range append(closedTracks, knownTracks()...) {
		rows := rowsIn(text)
		for _, list := range wrong {
			for _, beside := range right {
				wantNoWinner(t, rows, list, beside, impl.ErrRange)
				wantNoWinner(t, rows, beside, list, impl.ErrRange)
			}
			wantNoWinner(t, rows, list, list, impl.ErrRange)
		}
	}
	for _, text := range closedTracks {
		for _, list := range right {
			for _, beside := range right {
				wantNoWinner(t, rowsIn(text), list, beside, impl.ErrNotFound)
			}
		}
	}
}

// driven returns the car behind moves, each made with MoveCar, and the squares on the way.
func driven(t *testing.T, text string, moves []int64) []impl.Car {
	t.Helper()
	cars := []impl.Car{first(impl.FirstCar(rowsIn(text)))}
	for k, move := range moves {
		next, code := impl.MoveCar(rowsIn(text), cars[k], move)
		if code != impl.ErrNone {
			t.Errorf("%s: the move %d of %v is not open", text, k, moves)
		}
		cars = append(cars, next)
	}
	return cars
}

// Promise 8, and the guarantee: first routes lead to a goal, with their last move only, and no list
// of fewer moves does.
func TestFirstRoutesLeadToGoalsWithFewestMoves(t *testing.T) {
	far := 0
	for _, text := range manyTracks() {
		rows := rowsIn(text)
		route, code := impl.FirstRoute(rows)
		if code != impl.ErrNone {
			continue
		}
		fewest, code := impl.FewestToGoal(rows)
		wantValue(t, "FewestToGoal of "+text, fewest, code, int64(len(route)), impl.ErrNone)
		cars := driven(t, text, route)
		for k, car := range cars {
			if onGoal := rows[car[1]][car[0]] == 'G'; onGoal != (k == len(route)) {
				t.Errorf("%s: the route %v stands at %v behind %d moves", text, route, car, k)
			}
		}
		if len(route) <= 20 {
			car, code := impl.DriveRoute(rows, route)
			wantValue(t, "DriveRoute of "+text, car, code, cars[len(route)], impl.ErrNone)
		}
		for k := int64(1); k <= min(12, fewest); k++ {
			if routes := first(impl.CountRoutes(rows, k)); (routes > 0) != (k == fewest) {
				t.Errorf("%s: there are %d routes of %d moves, but the fewest moves are %d", text, routes, k, fewest)
			}
		}
		if len(route) > 20 {
			far++
		}
	}
	if far < 1 {
		t.Error("no route is longer than MaxTrack moves")
	}
}

// Promise 13, and the guarantee: of two players who do not blink the first one wins, also if both
// blink in the same turns.
func TestFirstPlayerWinsWithoutBlinks(t *testing.T) {
	var d dice = 78
	for _, text := range manyTracks() {
		rows := rowsIn(text)
		if _, code := impl.FirstRoute(rows); code != impl.ErrNone {
			wantNoWinner(t, rows, nil, nil, impl.ErrNotFound)
			continue
		}
		same := d.drawnTurns(3)
		for _, list := range [][]int64{nil, {}, same} {
			winner, code := impl.RaceWinner(rows, list, slices.Clone(list))
			wantValue(t, fmt.Sprint("RaceWinner of ", text, list, list), winner, code, 0, impl.ErrNone)
		}
	}
}

// The guarantee: cars behind open moves are cars, so that the functions of cars take them.
func TestCarsBehindOpenMovesAreCars(t *testing.T) {
	var d dice = 88
	for _, text := range manyTracks() {
		rows := rowsIn(text)
		car := first(impl.FirstCar(rows))
		for range 30 {
			moves, code := impl.OpenMoves(rows, car)
			if code != impl.ErrNone {
				t.Errorf("%s: %v is no car, code %d", text, car, code)
			}
			if len(moves) == 0 {
				car = first(impl.FirstCar(rows))
				continue
			}
			next, code := impl.MoveCar(rows, car, moves[d.below(int64(len(moves)))])
			at := square{int(next[0]), int(next[1])}
			if code != impl.ErrNone || !courseOf(text).isFree(at) || max(next[2], -next[2], next[3], -next[3]) > 5 {
				t.Errorf("%s: behind %v there is %v, code %d", text, car, next, code)
			}
			car = next
		}
	}
}

// The guarantee: routes are counted only where there are some.
func TestRoutesAreCountedOnlyWhereThereAreSome(t *testing.T) {
	for _, text := range append(manyTracks(), closedTracks...) {
		rows := rowsIn(text)
		fewest, code := impl.FewestToGoal(rows)
		for k := int64(1); k <= 12; k++ {
			routes := first(impl.CountRoutes(rows, k))
			if routes < 0 || routes > 0 && (code != impl.ErrNone || k < fewest) {
				t.Errorf("%s: there are %d routes of %d moves, but the fewest are %d, code %d", text, routes, k, fewest, code)
			}
		}
	}
}

func TestTrackArgumentsStayAsTheyAre(t *testing.T) {
	for _, text := range knownTracks() {
		whole := append(rowsIn(text), "spare", "S.G")
		rows := whole[:len(whole)-2]
		before := slices.Clone(whole)
		moves, allMoves := roomy([]int64{4, 4, 4})
		blinks, allBlinks := roomy([]int64{1, 3, 5})
		others, allOthers := roomy([]int64{2, 20})
		car := first(impl.FirstCar(rows))
		impl.IsTrack(rows)
		impl.MoveCar(rows, car, 4)
		impl.CanStop(rows, car)
		impl.FewestToGoal(rows)
		impl.DriveRoute(rows, moves)
		impl.SquaresReached(rows, 4)
		impl.CountRoutes(rows, 4)
		impl.RaceWinner(rows, blinks, others)
		spoil(first(impl.OpenMoves(rows, car)))
		spoil(first(impl.FirstRoute(rows)))
		for move := range int64(9) {
			for _, at := range first(impl.CrossedSquares(rows, impl.Car{car[0], car[1], 5, -4}, move)) {
				spoil(at)
			}
		}
		lists := fmt.Sprint(allMoves, allBlinks, allOthers)
		if !slices.Equal(whole, before) || lists != "[4 4 4 77 77 77] [1 3 5 77 77 77] [2 20 77 77 77]" {
			t.Errorf("%s: the arguments have become %q, %s", text, whole, lists)
		}
	}
}

func TestSquaresShareNoMemory(t *testing.T) {
	wantApart(t, "CrossedSquares", 5, func() [][]int64 { return first(impl.CrossedSquares(rowsIn("S.G"), impl.Car{1, 0, 5, -5}, 6)) })
}

// The same call has the same result, whatever calls and changes of results came before it.
func TestTracksKeepNoState(t *testing.T) {
	results := func() string {
		text := ""
		for _, track := range knownTracks()[:12] {
			rows := rowsIn(track)
			route, code := impl.FirstRoute(rows)
			open, second := impl.OpenMoves(rows, first(impl.FirstCar(rows)))
			squares, third := impl.SquaresReached(rows, 3)
			routes, fourth := impl.CountRoutes(rows, 5)
			winner, fifth := impl.RaceWinner(rows, []int64{1, 2}, []int64{2})
			text += fmt.Sprintln(route, code, open, second, squares, third, routes, fourth, winner, fifth)
			spoil(route)
			spoil(open)
		}
		return text
	}
	want := results()
	for range 3 {
		impl.FirstRoute(rowsIn("G.S/..."))
		impl.CanStop(rowsIn("S..G"), impl.Car{1, 0, 1, 0})
		if got := results(); got != want {
			t.Errorf("results have changed to %s", got)
		}
	}
}
