package tests

import (
	"fmt"
	"regexp"
	"slices"
	"strconv"
	"strings"
	"testing"

	"loop.example/g01388/impl"
)

// The games and the players of chapter 5.
const (
	col, snort        = 0, 1
	redSide, blueSide = 0, 1
)

// field returns the field with a text.
func field(t *testing.T, text string) impl.Field {
	t.Helper()
	f, code := impl.ParseField(text)
	if code != impl.ErrNone {
		t.Fatalf("ParseField(%q): code %d", text, code)
	}
	return f
}

// fieldText returns the text of a field.
func fieldText(t *testing.T, f impl.Field) string {
	t.Helper()
	text, code := impl.FieldText(f)
	if code != impl.ErrNone {
		t.Fatalf("FieldText(%v): code %d", f, code)
	}
	return text
}

// wantField checks a field, by its text, and the code beside it.
func wantField(t *testing.T, what string, got impl.Field, code int64, want string) {
	t.Helper()
	if text, second := impl.FieldText(got); code != impl.ErrNone || second != impl.ErrNone || text != want {
		t.Errorf("%s = %v with the text %q, code %d; want %q", what, got, text, code, want)
	}
}

// wantNoField checks that a field is the zero value beside the code of an error.
func wantNoField(t *testing.T, what string, got impl.Field, code, want int64) {
	t.Helper()
	wantValue(t, what, got, code, impl.Field{}, want)
}

// meadow is a field as it is written, with a sign for each point: a second way to what the numbers
// tell.
type meadow struct {
	colours string
	joined  [8][8]bool
}

// meadowOf returns the meadow of a text.
func meadowOf(text string) meadow {
	parts := strings.Split(text, ",")
	m := meadow{colours: parts[0]}
	for j, signs := range parts {
		for i := range signs {
			if j > 0 && signs[i] == '1' {
				m.join(i, j)
			}
		}
	}
	return m
}

func (m *meadow) join(i, j int) {
	m.joined[i][j], m.joined[j][i] = true, true
}

func (m meadow) text() string {
	text := m.colours
	for j := 1; j < len(m.colours); j++ {
		text += ","
		for i := range j {
			text += map[bool]string{true: "1", false: "0"}[m.joined[i][j]]
		}
	}
	return text
}

// field returns the numbers of the meadow.
func (m meadow) field() impl.Field {
	f := impl.Field{Points: int64(len(m.colours))}
	line := int64(1)
	for j := range m.colours {
		for i := range j {
			if m.joined[i][j] {
				f.Lines += line
			}
			line *= 2
		}
	}
	point := int64(1)
	for _, colour := range m.colours {
		switch colour {
		case 'r':
			f.Red += point
		case 'b':
			f.Blue += point
		}
		point *= 2
	}
	return f
}

// fair reports whether a meadow is fair for a game.
func (m meadow) fair(game int64) bool {
	bad := [][]string{{"rr", "bb"}, {"rb", "br"}}[game]
	for i := range m.colours {
		for j := range m.colours {
			if m.joined[i][j] && slices.Contains(bad, string([]byte{m.colours[i], m.colours[j]})) {
				return false
			}
		}
	}
	return true
}

// with returns the meadow with a point coloured.
func (m meadow) with(player, point int64) meadow {
	colours := []byte(m.colours)
	colours[point] = "rb"[player]
	m.colours = string(colours)
	return m
}

// choices returns the points that a player may colour.
func (m meadow) choices(game, player int64) []int64 {
	var points []int64
	for i := range int64(len(m.colours)) {
		if m.colours[i] == '.' && m.with(player, i).fair(game) {
			points = append(points, i)
		}
	}
	return points
}

// view is what a player who is to move on a meadow can look for.
type view struct {
	wins            bool
	least, greatest int64
}

// views are known by the colours of a meadow, and the player who is to move.
type views map[string]view

func (v views) of(m meadow, game, player int64) view {
	key := m.colours + strconv.FormatInt(player, 10)
	if known, ok := v[key]; ok {
		return known
	}
	var seen view
	for k, i := range m.choices(game, player) {
		next := v.of(m.with(player, i), game, 1-player)
		if !next.wins {
			seen.wins = true
		}
		if k == 0 || 1+next.least < seen.least {
			seen.least = 1 + next.least
		}
		seen.greatest = max(seen.greatest, 1+next.greatest)
	}
	v[key] = seen
	return seen
}

// best returns the points behind which the other player does not win.
func (v views) best(m meadow, game, player int64) []int64 {
	var points []int64
	for _, i := range m.choices(game, player) {
		if !v.of(m.with(player, i), game, 1-player).wins {
			points = append(points, i)
		}
	}
	return points
}

// play returns the points that are coloured by best play.
func (v views) play(m meadow, game, player int64) []int64 {
	var play []int64
	for {
		points := append(v.best(m, game, player), m.choices(game, player)...)
		if len(points) == 0 {
			return play
		}
		play = append(play, points[0])
		m, player = m.with(player, points[0]), 1-player
	}
}

// meadowsOf returns all meadows of n points.
func meadowsOf(n int) []meadow {
	var meadows []meadow
	var add func(m meadow, j, i int)
	add = func(m meadow, j, i int) {
		switch {
		case len(m.colours) < n:
			for _, colour := range ".rb" {
				next := m
				next.colours += string(colour)
				add(next, 1, 0)
			}
		case j == n:
			meadows = append(meadows, m)
		case i == j:
			add(m, j+1, 0)
		default:
			add(m, j, i+1)
			m.join(i, j)
			add(m, j, i+1)
		}
	}
	add(meadow{}, 1, 0)
	return meadows
}

// smallMeadows returns all meadows of at most so many points.
func smallMeadows(most int) []meadow {
	var meadows []meadow
	for n := 1; n <= most; n++ {
		meadows = append(meadows, meadowsOf(n)...)
	}
	return meadows
}

// plainMeadow returns a meadow of n points without colours, with no lines or with all.
func plainMeadow(n int, lines bool) meadow {
	m := meadow{colours: strings.Repeat(".", n)}
	for j := range n {
		for i := range j {
			if lines {
				m.join(i, j)
			}
		}
	}
	return m
}

// plainMeadows returns those of all numbers of points.
func plainMeadows() []meadow {
	var meadows []meadow
	for n := 1; n <= 8; n++ {
		meadows = append(meadows, plainMeadow(n, false), plainMeadow(n, true))
	}
	return meadows
}

// someMeadows returns meadows of 4 to 8 points with few and with many lines, behind few and behind
// many moves of one of the games, or with any colours.
func someMeadows(count int) []meadow {
	var d dice = 5
	var meadows []meadow
	for k := range count {
		m := plainMeadow(4+int(d.below(5)), false)
		density := 1 + d.below(4)
		for j := range m.colours {
			for i := range j {
				if d.below(5) < density {
					m.join(i, j)
				}
			}
		}
		for range d.below(7) {
			player := d.below(2)
			points := upTo(0, int64(len(m.colours))-1)
			if k%3 < 2 {
				points = m.choices(int64(k%3), player)
			}
			if len(points) > 0 {
				m = m.with(player, points[d.below(int64(len(points)))])
			}
		}
		meadows = append(meadows, m)
	}
	return meadows
}

func manyMeadows() []meadow {
	return slices.Concat(smallMeadows(4), plainMeadows(), someMeadows(600))
}

// fairFor calls look for the meadows that are fair for a game, and each of these games.
func fairFor(meadows []meadow, look func(m meadow, game int64)) {
	for _, m := range meadows {
		for game := range int64(2) {
			if m.fair(game) {
				look(m, game)
			}
		}
	}
}

// strangeNumbers returns numbers that are neither 0 nor 1.
func strangeNumbers() []int64 {
	return []int64{2, -1, 3, 7, 8, 256, 257, 1 << 32, 1<<32 + 1, leastInt, leastInt + 1, greatestInt}
}

// badFields returns some of each kind of what is not a field.
func badFields() map[string]impl.Field {
	bad := map[string]impl.Field{"zero value": {}, "red and blue": {Points: 1, Red: 1, Blue: 1}}
	for _, n := range []int64{0, 9, -1, 10, 63, 64, 65, 256 + 3, 1<<32 + 3, leastInt, leastInt + 3, greatestInt} {
		name := strconv.FormatInt(n, 10) + " points"
		bad[name] = impl.Field{Points: n}
		bad[name+" and a line"] = impl.Field{Points: n, Lines: 1}
		bad[name+" with colours"] = impl.Field{Points: n, Lines: 5, Red: 1, Blue: 2}
	}
	for n := int64(1); n <= 8; n++ {
		lines, points := int64(1)<<(n*(n-1)/2), int64(1)<<n
		name := strconv.FormatInt(n, 10) + " points, "
		for _, much := range []int64{-1, leastInt, leastInt + 1, 1 << 28, 1 << 32, 1 << 62, greatestInt} {
			bad[name+"lines "+strconv.FormatInt(much, 10)] = impl.Field{Points: n, Lines: much}
			bad[name+"red "+strconv.FormatInt(much, 10)] = impl.Field{Points: n, Red: much}
			bad[name+"blue "+strconv.FormatInt(much, 10)] = impl.Field{Points: n, Blue: much}
		}
		bad[name+"a line too far"] = impl.Field{Points: n, Lines: lines}
		bad[name+"a line too far beside all"] = impl.Field{Points: n, Lines: 2*lines - 1}
		bad[name+"a red point too far"] = impl.Field{Points: n, Red: points}
		bad[name+"a red point too far beside all"] = impl.Field{Points: n, Red: 2*points - 1}
		bad[name+"a blue point too far"] = impl.Field{Points: n, Blue: points}
		bad[name+"a blue point too far beside all"] = impl.Field{Points: n, Blue: 2*points - 1}
		bad[name+"the last one red and blue"] = impl.Field{Points: n, Red: points / 2, Blue: points / 2}
		bad[name+"all red and blue"] = impl.Field{Points: n, Red: points - 1, Blue: points - 1}
		bad[name+"all red, one blue"] = impl.Field{Points: n, Red: points - 1, Blue: 1}
	}
	return bad
}

// unfairFields returns, for each game, texts of fields that are not fair for it.
func unfairFields() map[int64][]string {
	neither := []string{"rrb,1,01", "bbr,1,11", "rb.r,1,00,110"}
	return map[int64][]string{
		col:   append([]string{"rr,1", "bb,1", "r..r,0,00,100", "rrr,1,11", ".bb.....,0,01,000,0000,00000,000000,0000000"}, neither...),
		snort: append([]string{"rb,1", "br,1", "r..b,0,00,100", "rbr,1,01", "r......b,0,00,000,0000,00000,000000,1000000", "rb......,1,00,000,0000,00000,000000,0000000"}, neither...),
	}
}

func TestFieldConstants(t *testing.T) {
	if impl.MaxField != 8 {
		t.Errorf("MaxField is %d", impl.MaxField)
	}
}

func TestIsField(t *testing.T) {
	good := []impl.Field{
		{Points: 1}, {Points: 1, Red: 1}, {Points: 1, Blue: 1}, {Points: 2, Lines: 1}, {Points: 2, Red: 2, Blue: 1}, {Points: 2, Lines: 1, Red: 3},
		{Points: 3, Lines: 5, Red: 1}, {Points: 3, Lines: 7, Red: 5, Blue: 2}, {Points: 8}, {Points: 8, Lines: 1<<28 - 1},
		{Points: 8, Lines: 1<<28 - 1, Red: 255}, {Points: 8, Lines: 1 << 27, Blue: 255}, {Points: 8, Red: 0x55, Blue: 0xaa}, {Points: 7, Lines: 1<<21 - 1, Red: 127},
	}
	for _, f := range good {
		if !impl.IsField(f) {
			t.Errorf("%v is a field", f)
		}
	}
	for _, m := range manyMeadows() {
		if !impl.IsField(m.field()) {
			t.Errorf("%s is a field", m.text())
		}
	}
	for name, f := range badFields() {
		if impl.IsField(f) {
			t.Errorf("%s: %v is no field", name, f)
		}
	}
	for n := int64(1); n <= 3; n++ {
		for k := range int64(12 * 12 * 12) {
			lines, red, blue := k/144-2, k/12%12-2, k%12-2
			want := lines >= 0 && lines < []int64{0, 1, 2, 8}[n] && red >= 0 && red < 1<<n && blue >= 0 && blue < 1<<n && red&blue == 0
			f := impl.Field{Points: n, Lines: lines, Red: red, Blue: blue}
			if impl.IsField(f) != want {
				t.Errorf("IsField(%v) = %v", f, !want)
			}
		}
	}
}

// ErrInvalid comes before all other errors, whatever is beside the field.
func TestFieldsInvalidComesFirst(t *testing.T) {
	for name, bad := range badFields() {
		for _, number := range []int64{0, 1, 2, 8, -1, leastInt, greatestInt} {
			for _, player := range []int64{0, 1, 2, -1} {
				wantNoColouring(t, name, bad, number, player, impl.ErrInvalid)
				next, code := impl.ColourPoint(bad, player, 0, number)
				wantNoField(t, name+": ColourPoint", next, code, impl.ErrInvalid)
				yes, code := impl.AreJoined(bad, number, player)
				wantValue(t, name+": AreJoined", yes, code, false, impl.ErrInvalid)
			}
			yes, code := impl.IsFairField(bad, number)
			wantValue(t, name+": IsFairField", yes, code, false, impl.ErrInvalid)
		}
		for _, other := range []impl.Field{bad, {Points: 1}, {Points: 8}, {}} {
			union, code := impl.UnionOf(bad, other)
			wantNoField(t, name+": UnionOf", union, code, impl.ErrInvalid)
			union, code = impl.UnionOf(other, bad)
			wantNoField(t, name+": UnionOf", union, code, impl.ErrInvalid)
		}
		other, code := impl.ExchangeSides(bad)
		wantNoField(t, name+": ExchangeSides", other, code, impl.ErrInvalid)
		for _, list := range [][]int64{nil, {0}, {1, 0}, {0, 0}, upTo(0, 7), upTo(0, 8), repeat(-1, 3)} {
			yes, code := impl.IsMatching(bad, list)
			wantValue(t, name+": IsMatching", yes, code, false, impl.ErrInvalid)
		}
		list, code := impl.FindKept(bad)
		wantNoList(t, name+": FindKept", list, code, impl.ErrInvalid)
		text, code := impl.FieldText(bad)
		wantValue(t, name+": FieldText", text, code, "", impl.ErrInvalid)
	}
}

// wantNoOutcome checks that the functions of a field and a game return an error, and zero values
// beside it.
func wantNoOutcome(t *testing.T, what string, f impl.Field, game, want int64) {
	t.Helper()
	what += fmt.Sprintf(" %v, game %d: ", f, game)
	red, blue, code := impl.OutcomeOf(f, game)
	wantValue(t, what+"OutcomeOf", [2]bool{red, blue}, code, [2]bool{}, want)
	least, greatest, code := impl.MovesLeft(f, game)
	wantValue(t, what+"MovesLeft", [2]int64{least, greatest}, code, [2]int64{}, want)
}

// wantNoPoints is wantNoOutcome for those of a field, a game and a player.
func wantNoPoints(t *testing.T, what string, f impl.Field, game, player, want int64) {
	t.Helper()
	what += fmt.Sprintf(" %v, game %d, player %d: ", f, game, player)
	points, code := impl.PointsFor(f, game, player)
	wantNoList(t, what+"PointsFor", points, code, want)
	best, code := impl.BestPoints(f, game, player)
	wantNoList(t, what+"BestPoints", best, code, want)
	play, code := impl.PlayField(f, game, player)
	wantNoList(t, what+"PlayField", play, code, want)
	for _, i := range []int64{0, f.Points - 1} {
		next, code := impl.ColourPoint(f, game, player, i)
		wantNoField(t, what+"ColourPoint", next, code, want)
	}
}

// wantNoColouring is wantNoOutcome and wantNoPoints.
func wantNoColouring(t *testing.T, what string, f impl.Field, game, player, want int64) {
	t.Helper()
	wantNoOutcome(t, what, f, game, want)
	wantNoPoints(t, what, f, game, player, want)
}

// ErrRange for a game, a player or a point comes before ErrState for a field that is not fair, or
// a point that may not be coloured.
func TestColouringNumbersOutOfRange(t *testing.T) {
	fields := []string{".", "r", "..,1", "r..,1,01", "rb,1", "rr,1", "rrb,1,01", "rb......,1,00,000,0000,00000,000000,0000000", "rrrrrrrr,1,11,111,1111,11111,111111,1111111"}
	for _, text := range fields {
		f := field(t, text)
		for _, strange := range strangeNumbers() {
			wantNoOutcome(t, "a strange game", f, strange, impl.ErrRange)
			yes, code := impl.IsFairField(f, strange)
			wantValue(t, "IsFairField", yes, code, false, impl.ErrRange)
			for _, usual := range []int64{0, 1, strange} {
				wantNoPoints(t, "a strange game", f, strange, usual, impl.ErrRange)
				wantNoPoints(t, "a strange player", f, usual, strange, impl.ErrRange)
			}
		}
		for _, i := range []int64{f.Points, f.Points + 1, -1, 8, 9, 62, 63, 64, 256, 1 << 32, leastInt, greatestInt} {
			for k := range int64(9) {
				next, code := impl.ColourPoint(f, k/3, k%3, i)
				wantNoField(t, "ColourPoint of "+text, next, code, impl.ErrRange)
			}
		}
	}
}

func TestFieldsThatAreNotFair(t *testing.T) {
	for game, texts := range unfairFields() {
		for _, text := range texts {
			f := field(t, text)
			fair, code := impl.IsFairField(f, game)
			wantValue(t, "IsFairField of "+text, fair, code, false, impl.ErrNone)
			wantNoColouring(t, text, f, game, redSide, impl.ErrState)
			wantNoColouring(t, text, f, game, blueSide, impl.ErrState)
			for i := range f.Points {
				for player := range int64(2) {
					next, code := impl.ColourPoint(f, game, player, i)
					wantNoField(t, "ColourPoint of "+text, next, code, impl.ErrState)
				}
			}
		}
	}
	for _, m := range smallMeadows(3) {
		for game := range int64(2) {
			if !m.fair(game) {
				wantNoColouring(t, m.text(), m.field(), game, redSide, impl.ErrState)
				wantNoColouring(t, m.text(), m.field(), game, blueSide, impl.ErrState)
			}
		}
	}
}

// What is told without a game does not depend on whether a field is fair.
func TestUnfairFieldsWithoutGames(t *testing.T) {
	f := field(t, "rrb.,1,01,000") // fair for no game
	joined, code := impl.AreJoined(f, 0, 1)
	wantValue(t, "AreJoined", joined, code, true, impl.ErrNone)
	union, code := impl.UnionOf(f, f)
	wantField(t, "UnionOf", union, code, "rrb.rrb.,1,01,000,0000,00001,000001,0000000")
	other, code := impl.ExchangeSides(f)
	wantField(t, "ExchangeSides", other, code, "bbr.,1,01,000")
	yes, code := impl.IsMatching(field(t, "rrbb,1,01,001"), []int64{3, 2, 1, 0})
	wantValue(t, "IsMatching", yes, code, true, impl.ErrNone)
	kept, code := impl.FindKept(field(t, "rrbb,1,00,001"))
	wantList(t, "FindKept", kept, code, []int64{2, 3, 0, 1})
}

func TestAreJoined(t *testing.T) {
	for _, m := range manyMeadows() {
		f := m.field()
		for i := range f.Points {
			for j := range f.Points {
				joined, code := impl.AreJoined(f, i, j)
				what := fmt.Sprintf("AreJoined of %s, %d and %d", m.text(), i, j)
				if i == j {
					wantValue(t, what, joined, code, false, impl.ErrRange)
				} else {
					wantValue(t, what, joined, code, m.joined[i][j], impl.ErrNone)
				}
			}
		}
	}
	for _, m := range plainMeadows() {
		f := m.field()
		for _, i := range []int64{f.Points, f.Points + 1, -1, 63, 64, 1 << 32, leastInt, greatestInt} {
			for _, j := range []int64{0, f.Points - 1, i, -i} {
				joined, code := impl.AreJoined(f, i, j)
				wantValue(t, "AreJoined", joined, code, false, impl.ErrRange)
				joined, code = impl.AreJoined(f, j, i)
				wantValue(t, "AreJoined", joined, code, false, impl.ErrRange)
			}
		}
	}
}

func TestIsFairField(t *testing.T) {
	tests := map[string][2]bool{
		".": {true, true}, "r": {true, true}, "b": {true, true},
		"rr,0": {true, true}, "rb,0": {true, true}, "..,1": {true, true}, "r.,1": {true, true}, ".b,1": {true, true},
		"rr,1": {false, true}, "bb,1": {false, true}, "rb,1": {true, false}, "br,1": {true, false},
		"rbr,1,01": {true, false}, "rrr,1,01": {false, true}, "rrb,1,01": {false, false}, "r.b,1,01": {true, true},
		"rbrbrbrb,1,01,001,0001,00001,000001,1000001": {true, false},
		"rrrrrrrr,1,11,111,1111,11111,111111,1111111": {false, true},
		"r......r,0,00,000,0000,00000,000000,1000000": {false, true},
		"rrrrbbbb,0,00,000,0000,00000,000000,0000000": {true, true},
		"........,1,11,111,1111,11111,111111,1111111": {true, true},
	}
	for text, want := range tests {
		for game := range int64(2) {
			fair, code := impl.IsFairField(field(t, text), game)
			wantValue(t, fmt.Sprintf("IsFairField of %s, %d", text, game), fair, code, want[game], impl.ErrNone)
		}
	}
	for _, m := range manyMeadows() {
		for game := range int64(2) {
			fair, code := impl.IsFairField(m.field(), game)
			wantValue(t, fmt.Sprintf("IsFairField of %s, %d", m.text(), game), fair, code, m.fair(game), impl.ErrNone)
		}
	}
}

// numbers reads a list that is written with blanks.
func numbers(text string) []int64 {
	var list []int64
	for _, word := range strings.Fields(text) {
		x, _ := strconv.ParseInt(word, 10, 64)
		list = append(list, x)
	}
	return list
}

// fieldCase tells, for each player who begins, which points may be coloured, whether this player
// wins, the best points, and the play. Lists are written with blanks.
type fieldCase struct {
	text            string
	game            int64
	points          [2]string
	wins            [2]bool
	least, greatest int64
	best, play      [2]string
}

func fieldCases() []fieldCase {
	const noLines, allLines = ",0,00,000,0000,00000,000000,0000000", ",1,11,111,1111,11111,111111,1111111"
	const row, rowBack = "0 1 2 3 4 5 6 7", "1 0 2 3 4 5 6 7"
	none, both := [2]string{}, func(list string) [2]string { return [2]string{list, list} }
	all := both(row)
	return []fieldCase{
		// One point.
		{".", col, both("0"), [2]bool{true, true}, 1, 1, both("0"), both("0")},
		{".", snort, both("0"), [2]bool{true, true}, 1, 1, both("0"), both("0")},
		{"r", col, none, [2]bool{}, 0, 0, none, none},
		{"r", snort, none, [2]bool{}, 0, 0, none, none},
		{"b", col, none, [2]bool{}, 0, 0, none, none},
		{"b", snort, none, [2]bool{}, 0, 0, none, none},
		// Two points.
		{"..,0", col, both("0 1"), [2]bool{}, 2, 2, none, both("0 1")},
		{"..,0", snort, both("0 1"), [2]bool{}, 2, 2, none, both("0 1")},
		{"..,1", col, both("0 1"), [2]bool{}, 2, 2, none, both("0 1")},
		{"..,1", snort, both("0 1"), [2]bool{true, true}, 1, 1, both("0 1"), both("0")},
		// One player wins, whoever begins; the other one cannot move at all.
		{"r.,1", col, [2]string{"", "1"}, [2]bool{false, true}, 0, 0, [2]string{"", "1"}, [2]string{"", "1"}},
		{"b.,1", col, [2]string{"1", ""}, [2]bool{true, false}, 1, 1, [2]string{"1", ""}, [2]string{"1", ""}},
		{"r.,1", snort, [2]string{"1", ""}, [2]bool{true, false}, 1, 1, [2]string{"1", ""}, [2]string{"1", ""}},
		{"b.,1", snort, [2]string{"", "1"}, [2]bool{false, true}, 0, 0, [2]string{"", "1"}, [2]string{"", "1"}},
		// Nobody can move.
		{"r.b,1,01", col, none, [2]bool{}, 0, 0, none, none},
		{"r.b,1,01", snort, none, [2]bool{}, 0, 0, none, none},
		{"rbr,1,01", col, none, [2]bool{}, 0, 0, none, none},
		{"rrr,1,01", snort, none, [2]bool{}, 0, 0, none, none},
		// Three points in a row.
		{"...,1,01", col, both("0 1 2"), [2]bool{}, 2, 3, none, both("0 2")},
		{"...,1,01", snort, both("0 1 2"), [2]bool{true, true}, 1, 2, both("1"), both("1")},
		{"r..,1,01", col, [2]string{"2", "1 2"}, [2]bool{false, true}, 2, 2, [2]string{"", "2"}, [2]string{"2 1", "2"}},
		{"r..,1,01", snort, [2]string{"1 2", "2"}, [2]bool{true, true}, 1, 1, [2]string{"1 2", "2"}, [2]string{"1", "2"}},
		// Three points, each joined with both others.
		{"...,1,11", col, both("0 1 2"), [2]bool{}, 2, 2, none, both("0 1")},
		{"...,1,11", snort, both("0 1 2"), [2]bool{true, true}, 1, 1, both("0 1 2"), both("0")},
		// No lines and all lines of the most points, and every point coloured.
		{"........" + noLines, col, all, [2]bool{}, 8, 8, none, all},
		{"........" + noLines, snort, all, [2]bool{}, 8, 8, none, all},
		{"........" + allLines, col, all, [2]bool{}, 2, 2, none, [2]string{"0 1", "0 1"}},
		{"........" + allLines, snort, all, [2]bool{true, true}, 1, 1, all, both("0")},
		{"rbrbrbrb" + noLines, col, none, [2]bool{}, 0, 0, none, none},
		{"rrrbbbbb" + noLines, snort, none, [2]bool{}, 0, 0, none, none},
		{"bbbbbbbb" + allLines, snort, none, [2]bool{}, 0, 0, none, none},
		{"rbrbrbr." + noLines, col, both("7"), [2]bool{true, true}, 1, 1, both("7"), both("7")},
		{"r......." + allLines, snort, [2]string{row[2:], ""}, [2]bool{true, false}, 1, 1, [2]string{row[2:], ""}, [2]string{"1", ""}},
		{"b......." + allLines, col, [2]string{row[2:], ""}, [2]bool{true, false}, 1, 1, [2]string{row[2:], ""}, [2]string{"1", ""}},
		{".b......" + allLines, snort, [2]string{"", rowBack[2:]}, [2]bool{false, true}, 0, 0, [2]string{"", rowBack[2:]}, [2]string{"", "0"}},
	}
}

func TestFieldsOfKnownOutcome(t *testing.T) {
	for _, test := range fieldCases() {
		f := field(t, test.text)
		what := fmt.Sprintf(" of %s, game %d", test.text, test.game)
		red, blue, code := impl.OutcomeOf(f, test.game)
		wantValue(t, "OutcomeOf"+what, [2]bool{red, blue}, code, test.wins, impl.ErrNone)
		least, greatest, code := impl.MovesLeft(f, test.game)
		wantValue(t, "MovesLeft"+what, [2]int64{least, greatest}, code, [2]int64{test.least, test.greatest}, impl.ErrNone)
		for player := range int64(2) {
			what := fmt.Sprintf("%s, player %d", what, player)
			points, code := impl.PointsFor(f, test.game, player)
			wantList(t, "PointsFor"+what, points, code, numbers(test.points[player]))
			best, code := impl.BestPoints(f, test.game, player)
			wantList(t, "BestPoints"+what, best, code, numbers(test.best[player]))
			play, code := impl.PlayField(f, test.game, player)
			wantList(t, "PlayField"+what, play, code, numbers(test.play[player]))
		}
	}
}

func TestPointsForAndColourPoint(t *testing.T) {
	fairFor(manyMeadows(), func(m meadow, game int64) {
		f := m.field()
		for player := range int64(2) {
			what := fmt.Sprintf(" of %s, game %d, player %d", m.text(), game, player)
			want := m.choices(game, player)
			points, code := impl.PointsFor(f, game, player)
			wantList(t, "PointsFor"+what, points, code, want)
			for i := range f.Points {
				next, code := impl.ColourPoint(f, game, player, i)
				what := fmt.Sprintf("ColourPoint%s, %d", what, i)
				if !slices.Contains(want, i) {
					wantNoField(t, what, next, code, impl.ErrState)
					continue
				}
				wantValue(t, what, next, code, m.with(player, i).field(), impl.ErrNone)
				if fair, code := impl.IsFairField(next, game); !fair || code != impl.ErrNone {
					t.Errorf("%s is not fair, code %d", what, code)
				}
			}
		}
	})
}

func TestPointsThatMayNotBeColoured(t *testing.T) {
	tests := []struct {
		text   string
		game   int64
		player int64
		point  int64
	}{
		{"r", col, redSide, 0}, {"r", col, blueSide, 0}, {"b", snort, redSide, 0}, {"b", snort, blueSide, 0}, // coloured
		{"r.,1", col, redSide, 1}, {"b.,1", col, blueSide, 1}, {"r.,1", snort, blueSide, 1}, {"b.,1", snort, redSide, 1}, // no longer fair
		{"r..,1,01", col, redSide, 1}, {"r..,1,01", snort, blueSide, 1}, {"r..,1,01", snort, redSide, 0}, {"..r,1,01", col, redSide, 1},
		{"r.b,1,01", col, redSide, 1}, {"r.b,1,01", col, blueSide, 1}, {"r.b,1,01", snort, redSide, 1}, {"r.b,1,01", snort, blueSide, 1},
		{"r.......,0,00,000,0000,00000,000000,1000000", col, redSide, 7}, {".......b,0,00,000,0000,00000,000000,1000000", snort, redSide, 0},
	}
	for _, test := range tests {
		next, code := impl.ColourPoint(field(t, test.text), test.game, test.player, test.point)
		wantNoField(t, fmt.Sprint("ColourPoint of ", test), next, code, impl.ErrState)
	}
	next, code := impl.ColourPoint(field(t, "r.,1"), col, blueSide, 1)
	wantField(t, "ColourPoint", next, code, "rb,1")
	next, code = impl.ColourPoint(field(t, "r.,1"), snort, redSide, 1)
	wantField(t, "ColourPoint", next, code, "rr,1")
	next, code = impl.ColourPoint(field(t, "........,0,00,000,0000,00000,000000,1000000"), snort, blueSide, 7)
	wantField(t, "ColourPoint", next, code, ".......b,0,00,000,0000,00000,000000,1000000")
}

// meadowsToSearch returns meadows for which all plays are tried out.
func meadowsToSearch() []meadow {
	return slices.Concat(smallMeadows(4), plainMeadows(), someMeadows(200))
}

func TestOutcomesMovesAndPlays(t *testing.T) {
	fairFor(meadowsToSearch(), func(m meadow, game int64) {
		f, known := m.field(), views{}
		reds, blues := known.of(m, game, redSide), known.of(m, game, blueSide)
		what := fmt.Sprintf(" of %s, game %d", m.text(), game)
		red, blue, code := impl.OutcomeOf(f, game)
		wantValue(t, "OutcomeOf"+what, [2]bool{red, blue}, code, [2]bool{reds.wins, blues.wins}, impl.ErrNone)
		least, greatest, code := impl.MovesLeft(f, game)
		wantValue(t, "MovesLeft"+what, [2]int64{least, greatest}, code, [2]int64{reds.least, reds.greatest}, impl.ErrNone)
		for player := range int64(2) {
			best, code := impl.BestPoints(f, game, player)
			wantList(t, fmt.Sprintf("BestPoints%s, player %d", what, player), best, code, known.best(m, game, player))
			play, code := impl.PlayField(f, game, player)
			wantList(t, fmt.Sprintf("PlayField%s, player %d", what, player), play, code, known.play(m, game, player))
		}
	})
}

// Best points are there exactly if the player wins who begins; behind them the other one does not
// win, and the winner makes the last move of the play.
func TestBestPointsWinFields(t *testing.T) {
	fairFor(meadowsToSearch(), func(m meadow, game int64) {
		f := m.field()
		red, blue, _ := impl.OutcomeOf(f, game)
		least, greatest, _ := impl.MovesLeft(f, game)
		for player, wins := range []bool{red, blue} {
			player := int64(player)
			best, code := impl.BestPoints(f, game, player)
			if code != impl.ErrNone || len(best) > 0 != wins {
				t.Errorf("%s, game %d, player %d: BestPoints %v, code %d, OutcomeOf %v", m.text(), game, player, best, code, wins)
			}
			for _, i := range best {
				next, _ := impl.ColourPoint(f, game, player, i)
				red, blue, code := impl.OutcomeOf(next, game)
				if code != impl.ErrNone || []bool{red, blue}[1-player] {
					t.Errorf("%s, game %d, player %d: the point %d does not win, code %d", m.text(), game, player, i, code)
				}
			}
			play, code := impl.PlayField(f, game, player)
			if moves := int64(len(play)); code != impl.ErrNone || moves%2 == 1 != wins || player == redSide && (moves < least || moves > greatest) {
				t.Errorf("%s, game %d, player %d: PlayField %v, code %d; wins %v, moves %d to %d", m.text(), game, player, play, code, wins, least, greatest)
			}
		}
	})
}

// Promise 5, the first part.
func TestExchangedSidesExchangeTheOutcome(t *testing.T) {
	seen := map[[2]bool]int{}
	fairFor(meadowsToSearch(), func(m meadow, game int64) {
		f := m.field()
		other, code := impl.ExchangeSides(f)
		if code != impl.ErrNone {
			t.Fatalf("ExchangeSides of %s: code %d", m.text(), code)
		}
		red, blue, code := impl.OutcomeOf(f, game)
		otherRed, otherBlue, second := impl.OutcomeOf(other, game)
		if code != impl.ErrNone || second != impl.ErrNone || red != otherBlue || blue != otherRed {
			t.Errorf("%s, game %d: %v and %v, code %d; exchanged: %v and %v, code %d", m.text(), game, red, blue, code, otherRed, otherBlue, second)
		}
		seen[[2]bool{red, blue}]++
		for player := range int64(2) {
			best, code := impl.BestPoints(other, game, 1-player)
			wantList(t, "BestPoints of exchanged sides of "+m.text(), best, code, first(impl.BestPoints(f, game, player)))
			play, code := impl.PlayField(other, game, 1-player)
			wantList(t, "PlayField of exchanged sides of "+m.text(), play, code, first(impl.PlayField(f, game, player)))
		}
	})
	if len(seen) != 4 {
		t.Errorf("the outcomes are %v", seen)
	}
}

func TestExchangeSides(t *testing.T) {
	for _, texts := range [][2]string{{".", "."}, {"r", "b"}, {"rrb,1,01", "bbr,1,01"}, {"r..,1,01", "b..,1,01"}, {"rb.r.bb.,1,01,001,0001,00001,000001,0000001", "br.b.rr.,1,01,001,0001,00001,000001,0000001"}} {
		for k := range 2 {
			other, code := impl.ExchangeSides(field(t, texts[k]))
			wantField(t, "ExchangeSides of "+texts[k], other, code, texts[1-k])
		}
	}
	for _, m := range manyMeadows() {
		want := m
		want.colours = strings.NewReplacer("r", "b", "b", "r").Replace(m.colours)
		other, code := impl.ExchangeSides(m.field())
		wantValue(t, "ExchangeSides of "+m.text(), other, code, want.field(), impl.ErrNone)
	}
}

// keptMeadow returns a meadow with a kept matching that joins no point with its partner, and this
// matching.
func keptMeadow(d *dice, pairs int) (meadow, []int64) {
	m := plainMeadow(2*pairs, false)
	order := upTo(0, int64(2*pairs)-1)
	for k := range order {
		l := int64(k) + d.below(int64(len(order)-k))
		order[k], order[l] = order[l], order[k]
	}
	matching := slices.Clone(order)
	for k := 0; k < len(order); k += 2 {
		i, j := order[k], order[k+1]
		matching[i], matching[j] = j, i
		if d.below(3) == 0 {
			m = m.with(redSide, i).with(blueSide, j)
		}
		for l := 0; l < k; l++ {
			if d.below(3) == 0 {
				m.join(int(i), int(order[l]))
				m.join(int(j), int(matching[order[l]]))
			}
		}
	}
	return m, matching
}

// Promise 5, the second part: the player who does not begin can always answer at the partner of
// the point, and so wins.
func TestKeptMatchingsWin(t *testing.T) {
	var d dice = 55
	fair := map[int64]int{}
	for k := range 400 {
		m, matching := keptMeadow(&d, 1+k%4)
		f := m.field()
		yes, code := impl.IsMatching(f, matching)
		wantValue(t, fmt.Sprint("IsMatching of ", m.text(), matching), yes, code, true, impl.ErrNone)
		kept, code := impl.FindKept(f)
		if code != impl.ErrNone || slices.Compare(kept, matching) > 0 {
			t.Errorf("FindKept of %s = %v, code %d; %v is one", m.text(), kept, code, matching)
		}
		fairFor([]meadow{m}, func(m meadow, game int64) {
			fair[game]++
			wantWonSecond(t, m.field(), game)
			for player := range int64(2) {
				for _, i := range first(impl.PointsFor(f, game, player)) {
					next, _ := impl.ColourPoint(f, game, player, i)
					next, code := impl.ColourPoint(next, game, 1-player, matching[i])
					if _, second := impl.FindKept(next); code != impl.ErrNone || second != impl.ErrNone {
						t.Errorf("%s, game %d: no answer to %d, codes %d and %d", m.text(), game, i, code, second)
					}
				}
			}
		})
	}
	if fair[col] < 100 || fair[snort] < 100 {
		t.Errorf("only %v are fair", fair)
	}
	fairFor(meadowsToSearch(), func(m meadow, game int64) {
		if _, code := impl.FindKept(m.field()); code == impl.ErrNone {
			wantWonSecond(t, m.field(), game)
		}
	})
}

// wantWonSecond checks that a field is won by the player who does not begin.
func wantWonSecond(t *testing.T, f impl.Field, game int64) {
	t.Helper()
	red, blue, code := impl.OutcomeOf(f, game)
	wantValue(t, fmt.Sprintf("OutcomeOf of %v, game %d", f, game), [2]bool{red, blue}, code, [2]bool{}, impl.ErrNone)
}

// A field beside itself with exchanged sides has a kept matching.
func TestUnionsWithExchangedSidesAreWonSecond(t *testing.T) {
	for _, m := range slices.Concat(smallMeadows(3), someMeadows(150)) {
		n := int64(len(m.colours))
		if n > 4 {
			continue
		}
		other, _ := impl.ExchangeSides(m.field())
		union, code := impl.UnionOf(m.field(), other)
		if code != impl.ErrNone {
			t.Fatalf("UnionOf of %s: code %d", m.text(), code)
		}
		matched, code := impl.IsMatching(union, append(upTo(n, 2*n-1), upTo(0, n-1)...))
		wantValue(t, "IsMatching of a union of "+m.text(), matched, code, true, impl.ErrNone)
		if _, code := impl.FindKept(union); code != impl.ErrNone {
			t.Errorf("FindKept of a union of %s: code %d", m.text(), code)
		}
		fairFor([]meadow{m}, func(_ meadow, game int64) { wantWonSecond(t, union, game) })
	}
}

// Promise 16.
func TestFieldsWithoutLinesAreHeaps(t *testing.T) {
	var d dice = 16
	for n := 1; n <= 8; n++ {
		for range 20 {
			m := plainMeadow(n, false)
			for i := range int64(n) {
				if colour := d.below(4); colour < 2 {
					m = m.with(colour, i)
				}
			}
			wantLikeHeap(t, m)
		}
		wantLikeHeap(t, plainMeadow(n, false))
	}
}

// wantLikeHeap checks that a meadow without lines is like a heap with a thing for each point that
// has no colour.
func wantLikeHeap(t *testing.T, m meadow) {
	t.Helper()
	left := int64(strings.Count(m.colours, "."))
	heap, code := impl.HeapGame(left, []int64{1})
	if code != impl.ErrNone {
		t.Fatalf("HeapGame of %d: code %d", left, code)
	}
	won := first(impl.WonPlaces(heap))[0]
	values := first(impl.GrundyOf(heap))
	for game := range int64(2) {
		what := fmt.Sprintf(" of %s, game %d", m.text(), game)
		red, blue, code := impl.OutcomeOf(m.field(), game)
		wantValue(t, "OutcomeOf"+what, [2]bool{red, blue}, code, [2]bool{won, won}, impl.ErrNone)
		if (values[0] != 0) != red {
			t.Errorf("OutcomeOf%s = %v, but the heap has the value %d", what, red, values[0])
		}
		least, greatest, code := impl.MovesLeft(m.field(), game)
		wantValue(t, "MovesLeft"+what, [2]int64{least, greatest}, code, [2]int64{first(impl.FewestMoves(heap))[0], first(impl.MostMoves(heap))[0]}, impl.ErrNone)
	}
}

func TestUnionOf(t *testing.T) {
	tests := [][3]string{
		{".", ".", "..,0"},
		{"r", "b", "rb,0"},
		{"..,1", ".", "...,1,00"},
		{".", "..,1", "...,0,01"},
		{"r..,1,01", "b.,1", "r..b.,1,01,000,0001"},
		{"b.,1", "r..,1,01", "b.r..,1,00,001,0001"},
		{"rrrr,1,11,111", "bbbb,1,11,111", "rrrrbbbb,1,11,111,0000,00001,000011,0000111"},
		{"b", ".......,1,11,111,1111,11111,111111", "b.......,0,01,011,0111,01111,011111,0111111"},
		{"......r,1,11,111,1111,11111,111111", "r", "......rr,1,11,111,1111,11111,111111,0000000"},
	}
	for _, test := range tests {
		union, code := impl.UnionOf(field(t, test[0]), field(t, test[1]))
		wantField(t, "UnionOf of "+test[0]+" and "+test[1], union, code, test[2])
	}
	meadows := slices.Concat(smallMeadows(3)[:100], plainMeadows(), someMeadows(40))
	for _, m := range meadows {
		for _, o := range meadows {
			union, code := impl.UnionOf(m.field(), o.field())
			what := "UnionOf of " + m.text() + " and " + o.text()
			if len(m.colours)+len(o.colours) > 8 {
				wantNoField(t, what, union, code, impl.ErrLimit)
			} else {
				wantValue(t, what, union, code, m.beside(o).field(), impl.ErrNone)
			}
		}
	}
	for n := 1; n <= 8; n++ {
		union, code := impl.UnionOf(plainMeadow(n, true).field(), plainMeadow(9-n, false).field())
		wantNoField(t, "UnionOf of one point too many", union, code, impl.ErrLimit)
	}
}

// beside returns the meadow of two meadows.
func (m meadow) beside(o meadow) meadow {
	n := len(m.colours)
	for i := range o.colours {
		for j := range i {
			if o.joined[i][j] {
				m.join(n+i, n+j)
			}
		}
	}
	m.colours += o.colours
	return m
}

// matchedBy reports whether a list, with each number once, is a matching of a meadow.
func (m meadow) matchedBy(p []int64) bool {
	for i, partner := range p {
		if int(partner) == i || int(p[partner]) != i {
			return false
		}
		for j := range p {
			if i != j && m.joined[i][j] != m.joined[partner][p[j]] {
				return false
			}
		}
	}
	return true
}

// keptBy reports whether a matching of a meadow is kept, and joins no point with its partner.
func (m meadow) keptBy(p []int64) bool {
	for i, partner := range p {
		if m.joined[i][partner] || (m.colours[i] == 'r') != (m.colours[partner] == 'b') {
			return false
		}
	}
	return true
}

// ordersOf returns the lists of the numbers 0 to n - 1, each once, in ascending order.
func ordersOf(n int64) [][]int64 {
	lists := [][]int64{{}}
	for range n {
		var longer [][]int64
		for _, list := range lists {
			for x := range n {
				if !slices.Contains(list, x) {
					longer = append(longer, append(slices.Clone(list), x))
				}
			}
		}
		lists = longer
	}
	return lists
}

func TestIsMatchingOfKnownLists(t *testing.T) {
	tests := []struct {
		text, list string
		want       bool
	}{
		// No point has itself.
		{".", "0", false}, {"..,0", "0 1", false}, {"...,0,00", "1 0 2", false}, {"....,0,00,000", "1 0 2 3", false}, {"....,0,00,000", "0 1 2 3", false},
		// Points that are joined with their partners.
		{"..,0", "1 0", true}, {"..,1", "1 0", true}, {"....,1,00,001", "1 0 3 2", true}, {"....,1,11,111", "3 2 1 0", true},
		// Points are joined exactly if their partners are.
		{"....,1,00,001", "2 3 0 1", true}, {"....,1,00,000", "2 3 0 1", false}, {"....,0,00,001", "2 3 0 1", false}, {"....,1,00,001", "3 2 1 0", true},
		{"....,0,10,010", "1 0 3 2", true}, {"....,0,10,000", "1 0 3 2", false}, {"....,0,10,010", "3 2 1 0", true}, {"....,0,10,000", "3 2 1 0", false}, {"....,0,10,010", "2 3 0 1", true},
		{"....,1,01,001", "3 2 1 0", true}, {"....,1,01,001", "1 0 3 2", false}, {"....,1,01,001", "2 3 0 1", false},
		// The partner of the partner is another point.
		{"...,0,00", "1 2 0", false}, {"...,1,11", "2 0 1", false}, {"....,0,00,000", "1 2 3 0", false}, {"....,1,11,111", "3 0 1 2", false},
		// Colours do not count.
		{"rr,0", "1 0", true}, {"r.,1", "1 0", true}, {"rb,1", "1 0", true}, {"bbr.,1,00,001", "2 3 0 1", true},
		// The most points.
		{"........,0,00,000,0000,00000,000000,0000000", "7 6 5 4 3 2 1 0", true}, {"........,1,11,111,1111,11111,111111,1111111", "1 0 3 2 5 4 7 6", true},
		{"........,0,00,000,0000,00000,000000,0000000", "7 6 5 3 4 2 1 0", false}, {"........,0,00,000,0000,00000,000000,0000001", "7 6 5 4 3 2 1 0", false},
		{"........,1,00,000,0000,00000,000000,0000001", "7 6 5 4 3 2 1 0", true}, {"........,0,00,000,0000,00000,000000,0000001", "1 0 3 2 5 4 7 6", true},
	}
	for _, test := range tests {
		yes, code := impl.IsMatching(field(t, test.text), numbers(test.list))
		wantValue(t, "IsMatching of "+test.text+" and "+test.list, yes, code, test.want, impl.ErrNone)
	}
}

func TestIsMatching(t *testing.T) {
	orders := map[int][][]int64{}
	for n := range 6 {
		orders[n+1] = ordersOf(int64(n + 1))
	}
	for _, m := range slices.Concat(smallMeadows(3), meadowsOf(4)[:640], someMeadows(100), plainMeadows()) {
		for _, list := range orders[len(m.colours)] {
			yes, code := impl.IsMatching(m.field(), list)
			wantValue(t, fmt.Sprint("IsMatching of ", m.text(), list), yes, code, m.matchedBy(list), impl.ErrNone)
		}
	}
}

// A list that does not have each number once is out of range, whatever the field is.
func TestListsThatAreNone(t *testing.T) {
	for _, m := range slices.Concat(plainMeadows(), someMeadows(20)) {
		f := m.field()
		n := int(f.Points)
		lists := [][]int64{nil, {}, upTo(0, f.Points), upTo(0, f.Points-2), upTo(1, f.Points), upTo(-1, f.Points-2), repeat(f.Points-1, n+1), repeat(0, n+1), repeat(-1, n), repeat(0, 1000)}
		for k := range n {
			for _, strange := range []int64{f.Points, f.Points + 1, -1, 8, 9, 63, 64, 1 << 32, leastInt, greatestInt} {
				list := upTo(0, f.Points-1)
				slices.Reverse(list)
				list[k] = strange
				lists = append(lists, list)
			}
			for l := range n {
				list := upTo(0, f.Points-1)
				list[k] = list[l]
				if k != l {
					lists = append(lists, list)
				}
			}
		}
		for _, list := range lists {
			yes, code := impl.IsMatching(f, list)
			wantValue(t, fmt.Sprint("IsMatching of ", m.text(), list), yes, code, false, impl.ErrRange)
		}
	}
	for k := range int64(27) {
		list := []int64{k / 9, k / 3 % 3, k % 3}
		want := int64(impl.ErrNone)
		if list[0] == list[1] || list[0] == list[2] || list[1] == list[2] {
			want = impl.ErrRange
		}
		yes, code := impl.IsMatching(field(t, "r..,1,01"), list)
		wantValue(t, fmt.Sprint("IsMatching of three points and ", list), yes, code, false, want)
	}
}

func TestFindKeptOfKnownFields(t *testing.T) {
	tests := map[string]string{
		"..,0":          "1 0",
		"rb,0":          "1 0",
		"br,0":          "1 0",
		"r..b,1,00,001": "3 2 1 0",
		"rrbb,0,00,000": "2 3 0 1",
		"....,1,01,101": "2 3 0 1",
		// Several matchings.
		"....,0,00,000":                               "1 0 3 2",
		"....,1,00,001":                               "2 3 0 1",
		"....,0,10,010":                               "1 0 3 2",
		"....,0,01,100":                               "1 0 3 2",
		"rr..bb,0,00,000,0000,00000":                  "4 5 3 2 0 1",
		"rb.b.r,0,00,000,0000,00000":                  "1 0 4 5 2 3",
		"........,0,00,000,0000,00000,000000,0000000": "1 0 3 2 5 4 7 6",
		"rrrrbbbb,0,00,000,0000,00000,000000,0000000": "4 5 6 7 0 1 2 3",
		"........,1,00,001,0000,00001,000000,0000001": "2 3 0 1 6 7 4 5",
		"r......b,1,01,001,0000,00001,000001,0000001": "7 6 5 4 3 2 1 0",
		// A circle of six: points that face each other.
		"......,1,01,001,0001,10001": "3 4 5 0 1 2",
		"r..b..,1,01,001,0001,10001": "3 4 5 0 1 2",
		// None: an odd number of points.
		".": "", "r": "", "...,0,00": "", "r..,1,01": "", ".......,0,00,000,0000,00000,000000": "", "rb...,1,01,001,0001": "",
		// None: points that are joined with each other.
		"..,1": "", "rb,1": "", "....,1,11,111": "", "....,1,01,001": "", "........,1,11,111,1111,11111,111111,1111111": "",
		// None: colours that have no partner.
		"r.,0": "", ".b,0": "", "rr,0": "", "bb,0": "", "rrb.,0,00,000": "", "rrrb,0,00,000": "", "r..r,1,00,001": "",
		// None: lines that have no partner.
		"....,1,00,000": "", "....,1,01,000": "", "....,1,10,100": "", "....,0,01,010": "", "....,0,00,110": "", "......r.,0,00,000,0000,00000,000000,0000001": "",
	}
	for text, want := range tests {
		kept, code := impl.FindKept(field(t, text))
		if want == "" {
			wantNoList(t, "FindKept of "+text, kept, code, impl.ErrNotFound)
		} else {
			wantList(t, "FindKept of "+text, kept, code, numbers(want))
		}
	}
}

// The found one is the first of all lists that are kept matchings.
func TestFindKept(t *testing.T) {
	var d dice = 7
	meadows := slices.Concat(smallMeadows(4), plainMeadows(), someMeadows(100))
	for k := range 100 {
		m, _ := keptMeadow(&d, 1+k%4)
		meadows = append(meadows, m)
	}
	orders := map[int][][]int64{}
	for n := range 8 {
		orders[n+1] = ordersOf(int64(n + 1))
	}
	for _, m := range meadows {
		lists := orders[len(m.colours)]
		k := slices.IndexFunc(lists, func(list []int64) bool { return m.matchedBy(list) && m.keptBy(list) })
		kept, code := impl.FindKept(m.field())
		if k < 0 {
			wantNoList(t, "FindKept of "+m.text(), kept, code, impl.ErrNotFound)
			continue
		}
		wantList(t, "FindKept of "+m.text(), kept, code, lists[k])
		matched, code := impl.IsMatching(m.field(), kept)
		wantValue(t, "IsMatching of "+m.text(), matched, code, true, impl.ErrNone)
	}
}

func TestFieldText(t *testing.T) {
	tests := map[string]impl.Field{
		".":             {Points: 1},
		"r":             {Points: 1, Red: 1},
		"b":             {Points: 1, Blue: 1},
		"..,0":          {Points: 2},
		".b,1":          {Points: 2, Lines: 1, Blue: 2},
		"r..,1,01":      {Points: 3, Lines: 5, Red: 1},
		"...,0,10":      {Points: 3, Lines: 2},
		"br.,1,11":      {Points: 3, Lines: 7, Red: 2, Blue: 1},
		"..rb,0,00,100": {Points: 4, Lines: 8, Red: 4, Blue: 8},
		"....,1,01,001": {Points: 4, Lines: 1 + 4 + 32},
		"........,0,00,000,0000,00000,000000,0000000": {Points: 8},
		"rrrrrrrr,1,11,111,1111,11111,111111,1111111": {Points: 8, Lines: 1<<28 - 1, Red: 255},
		"r.......,0,00,000,0000,00000,000000,1000000": {Points: 8, Lines: 1 << 21, Red: 1},
		".......b,0,00,000,0000,00000,000000,0000001": {Points: 8, Lines: 1 << 27, Blue: 128},
		".r.b.r.b,1,00,001,0000,00001,000000,0000001": {Points: 8, Lines: 1 + 1<<5 + 1<<14 + 1<<27, Red: 2 + 32, Blue: 8 + 128},
	}
	for want, f := range tests {
		text, code := impl.FieldText(f)
		wantValue(t, "FieldText", text, code, want, impl.ErrNone)
		again, code := impl.ParseField(want)
		wantValue(t, "ParseField of "+want, again, code, f, impl.ErrNone)
	}
}

func TestFieldsComeBackFromTheirTexts(t *testing.T) {
	for _, m := range manyMeadows() {
		text, code := impl.FieldText(m.field())
		wantValue(t, "FieldText", text, code, m.text(), impl.ErrNone)
		again, code := impl.ParseField(text)
		wantValue(t, "ParseField of "+text, again, code, m.field(), impl.ErrNone)
	}
}

func TestParseFieldSyntax(t *testing.T) {
	const noLines = ",0,00,000,0000,00000,000000,0000000"
	bad := []string{
		// No points, or too many.
		"", ",", ",0", "........." + noLines + ",00000000", "rbrbrbrbr" + noLines + ",00000000", ".........", strings.Repeat(".", 64), strings.Repeat("r", 5000),
		// Other letters.
		"x", "0", "1", "R", "B", "g", " ", "-", "_", "x.,0", ".x,0", "R.,0", ".B,0", ".,x", "..,2", "..,x", "..,.", "..,r", "..,b", "...,0,0x", "...,2,00", "...,0,.0", "....,0,00,00r",
		// A `,` is missing, or superfluous.
		"..", "..0", "...,0", "...,000", "...0,00", "...,0.00", "....,0,00000", ".,", "..,1,", "..,,1", ",..,1", "...,0,,00", "...,,0,00", "...,0,0,0", "...,0,00,", "r..,1,01,", "r..,1,01,,", "..;1", ".. 1", "..:1", "..\n1",
		// Too few digits, or too many.
		".,1", ".,0", "..,", "..,11", "..,00", "..,01", "...,,00", "...,0,", "...,0,0", "...,00,0", "...,0,000", "...,1,011", "....,0,00,00", "....,0,00,0000", "........" + noLines + "0", ("........" + noLines)[:42],
		// A point that does not fit the digits.
		"...,1", "..,1,01", "r..,1", "r..,1,01,001", "....,0,00", ".......,0,00,000,0000,00000,000000,0000000", "........,0,00,000,0000,00000,000000", "." + noLines, "........",
		// Other signs.
		" .", ". ", " ..,1", "..,1 ", ".. ,1", "..,1\n", ".\n", "..\x00,1", "..,1\x00", "．", "·", "..，1", "..,１", "\ufeff..,1", "..,1\xff", "\xff", "..,-1", "..,+1", "...,0,0 ",
		// Texts of other things.
		"1.2,2,", "a,b", "1x1:0000", "3,4;", "[..],1",
		strings.Repeat(".", 64) + "," + strings.Repeat("1", 64), strings.Repeat(",", 5000), strings.Repeat("1", 5000), "..," + strings.Repeat("1", 5000), strings.Repeat(".,", 5000), "........" + strings.Repeat(noLines, 100),
	}
	for _, text := range bad {
		f, code := impl.ParseField(text)
		wantNoField(t, "ParseField of "+strconv.Quote(text), f, code, impl.ErrSyntax)
	}
	// A text with one byte changed, left out or added is one of another field, or of none.
	for _, text := range []string{".", "r.,1", "r..,1,01", "b.r.,0,11,010", "r..b....,1,00,001,0000,00001,000000,1000001"} {
		for changed := range changedTexts(text) {
			wantFieldOrNone(t, changed)
		}
	}
}

// wantFieldOrNone checks that a text is read exactly if it is the text of a field.
func wantFieldOrNone(t *testing.T, text string) {
	t.Helper()
	f, code := impl.ParseField(text)
	if !fieldForm.MatchString(text) {
		wantNoField(t, "ParseField of "+strconv.Quote(text), f, code, impl.ErrSyntax)
	} else if code != impl.ErrNone || fieldText(t, f) != text {
		t.Errorf("ParseField(%q) = %v, code %d", text, f, code)
	}
}

var fieldForm = regexp.MustCompile(`^([rb.]|[rb.]{2},[01]|[rb.]{3},[01],[01]{2}|[rb.]{4},[01],[01]{2},[01]{3}|[rb.]{5},[01],[01]{2},[01]{3},[01]{4}|[rb.]{6},[01],[01]{2},[01]{3},[01]{4},[01]{5}|[rb.]{7},[01],[01]{2},[01]{3},[01]{4},[01]{5},[01]{6}|[rb.]{8},[01],[01]{2},[01]{3},[01]{4},[01]{5},[01]{6},[01]{7})\z`)

func TestListsForMatchingsStayAsTheyAre(t *testing.T) {
	for _, want := range [][]int64{{1, 0, 3, 2}, {3, 2, 1, 0}, {0, 1, 2, 3}, {1, 2, 3, 0}, {0, 0, 1, 2}, {0, 1}, {4, 3, 2, 1}, {0, 1, 2, 3, 4}} {
		list, whole := roomy(want)
		impl.IsMatching(field(t, "....,1,00,001"), list)
		if !slices.Equal(whole, append(slices.Clone(want), 77, 77, 77)) {
			t.Errorf("%v has become %v", want, whole)
		}
	}
}

// The same call has the same result, whatever is done to the results of calls before it.
func TestListsOfFieldsAreNew(t *testing.T) {
	row := field(t, "...,1,01")
	for range 3 {
		lists := map[string]struct {
			of   func() ([]int64, int64)
			want []int64
		}{
			"PointsFor":  {func() ([]int64, int64) { return impl.PointsFor(row, snort, redSide) }, []int64{0, 1, 2}},
			"BestPoints": {func() ([]int64, int64) { return impl.BestPoints(row, snort, blueSide) }, []int64{1}},
			"PlayField":  {func() ([]int64, int64) { return impl.PlayField(row, col, redSide) }, []int64{0, 2}},
			"FindKept":   {func() ([]int64, int64) { return impl.FindKept(field(t, "r..b,1,00,001")) }, []int64{3, 2, 1, 0}},
		}
		for name, list := range lists {
			got, code := list.of()
			wantList(t, name, got, code, list.want)
			spoil(got)
		}
	}
}
