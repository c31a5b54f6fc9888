package tests

import (
	"fmt"
	"reflect"
	"regexp"
	"slices"
	"strconv"
	"strings"
	"testing"

	"loop.example/g01388/impl"
)

// ending returns the ending with a text.
func ending(t *testing.T, text string) impl.Ending {
	t.Helper()
	x, code := impl.ParseEnding(text)
	if code != impl.ErrNone {
		t.Fatalf("ParseEnding(%q): code %d", text, code)
	}
	return x
}

// endingText returns the text of an ending.
func endingText(t *testing.T, x impl.Ending) string {
	t.Helper()
	text, code := impl.EndingText(x)
	if code != impl.ErrNone {
		t.Fatalf("EndingText(%v): code %d", x, code)
	}
	return text
}

// wantEnding checks an ending and the code beside it.
func wantEnding(t *testing.T, what string, got impl.Ending, code int64, want impl.Ending) {
	t.Helper()
	if code != impl.ErrNone || !slices.Equal(got.Chains, want.Chains) || !slices.Equal(got.Loops, want.Loops) {
		t.Errorf("%s = %v, code %d; want %v", what, got, code, want)
	}
}

// wantNoEnding checks that an ending is the zero value beside the code of an error.
func wantNoEnding(t *testing.T, what string, got impl.Ending, code, want int64) {
	t.Helper()
	if code != want || len(got.Chains) != 0 || len(got.Loops) != 0 {
		t.Errorf("%s = %v, code %d; want nothing and code %d", what, got, code, want)
	}
}

// piece is a chain or a loop.
type piece struct {
	loop  bool
	boxes int64
}

// pieces are those of an ending, chains before loops and both ascending.
type pieces []piece

func piecesOf(x impl.Ending) pieces {
	var list pieces
	for _, boxes := range x.Chains {
		list = append(list, piece{false, boxes})
	}
	for _, boxes := range x.Loops {
		list = append(list, piece{true, boxes})
	}
	return list
}

func (p pieces) ending() impl.Ending {
	var x impl.Ending
	for _, one := range p {
		if one.loop {
			x.Loops = append(x.Loops, one.boxes)
		} else {
			x.Chains = append(x.Chains, one.boxes)
		}
	}
	return x
}

func (p pieces) boxes() int64 {
	sum := int64(0)
	for _, one := range p {
		sum += one.boxes
	}
	return sum
}

// without returns the pieces without one.
func (p pieces) without(k int) pieces {
	return slices.Concat(p[:k], p[k+1:])
}

// share is what the opener and the taker get by an answer, and whether the taker is to move then.
type share struct {
	opener, taker int64
	takerMoves    bool
}

// shares returns the share of the greedy answer and, if it is open, that of the sparing one.
func (p piece) shares() []share {
	greedy := share{0, p.boxes, true}
	switch {
	case p.loop:
		return []share{greedy, {4, p.boxes - 4, false}}
	case p.boxes > 2:
		return []share{greedy, {2, p.boxes - 2, false}}
	}
	return []share{greedy}
}

// lead returns by how many boxes the first player is ahead in the end, if the mover is to move: a
// second way to values, on which the players stay the same. Player 0 goes for much, 1 for little.
func (p pieces) lead(mover int64, known map[string]int64) int64 {
	key := fmt.Sprint(mover, p)
	if lead, ok := known[key]; ok {
		return lead
	}
	var leads []int64
	for k := range p {
		leads = append(leads, wanted(1-mover, p.leadsBehind(k, mover, known)))
	}
	known[key] = wanted(mover, leads)
	return known[key]
}

// leadsBehind returns the leads behind the answers, if the mover opens a piece.
func (p pieces) leadsBehind(k int, mover int64, known map[string]int64) []int64 {
	var leads []int64
	for _, s := range p[k].shares() {
		next, got := mover, s.opener-s.taker
		if s.takerMoves {
			next = 1 - mover
		}
		if mover == 1 {
			got = -got
		}
		leads = append(leads, got+p.without(k).lead(next, known))
	}
	return leads
}

// wanted returns the lead that a player goes for.
func wanted(player int64, leads []int64) int64 {
	switch {
	case len(leads) == 0:
		return 0
	case player == 0:
		return slices.Max(leads)
	}
	return slices.Min(leads)
}

// allEndings returns the endings of at most so many pieces with few boxes.
func allEndings(most int) []impl.Ending {
	sorts := pieces{{false, 1}, {false, 2}, {false, 3}, {false, 4}, {false, 5}, {false, 6}, {true, 4}, {true, 5}, {true, 6}, {true, 8}, {true, 9}}
	var endings []impl.Ending
	var add func(p pieces, from int)
	add = func(p pieces, from int) {
		endings = append(endings, p.ending())
		for k := from; k < len(sorts) && len(p) < most; k++ {
			add(append(slices.Clone(p), sorts[k]), k)
		}
	}
	add(nil, 0)
	return endings
}

// someEndings returns endings of up to MaxStrings pieces, with few and with many boxes.
func someEndings(count int) []impl.Ending {
	var d dice = 4
	var endings []impl.Ending
	for k := range count {
		var x impl.Ending
		greatest := []int64{5, 8, 12, 30}[k%4]
		for range d.below(9) {
			if d.below(3) > 0 {
				x.Chains = append(x.Chains, 1+d.below(greatest))
			} else {
				x.Loops = append(x.Loops, 4+d.below(greatest-3))
			}
		}
		slices.Sort(x.Chains)
		slices.Sort(x.Loops)
		endings = append(endings, x)
	}
	return endings
}

// fullEndings returns endings of exactly MaxStrings pieces.
func fullEndings() []impl.Ending {
	var endings []impl.Ending
	for chains := range 9 {
		for _, boxes := range [][2]int64{{1, 4}, {3, 4}, {4, 8}, {30, 30}} {
			endings = append(endings, impl.Ending{Chains: repeat(boxes[0], chains), Loops: repeat(boxes[1], 8-chains)})
		}
	}
	return append(endings, impl.Ending{Chains: upTo(1, 8)}, impl.Ending{Loops: upTo(4, 11)}, impl.Ending{Chains: upTo(1, 4), Loops: upTo(27, 30)})
}

func manyEndings() []impl.Ending {
	return slices.Concat(allEndings(3), someEndings(300), fullEndings())
}

// badEndings returns some of each kind of what is not an ending.
func badEndings() map[string]impl.Ending {
	bad := map[string]impl.Ending{
		"chains that descend":             {Chains: []int64{4, 3}},
		"chains that descend at last":     {Chains: []int64{1, 3, 5, 4}, Loops: []int64{4}},
		"loops that descend":              {Loops: []int64{6, 4}},
		"loops that descend at last":      {Chains: []int64{3}, Loops: []int64{4, 5, 6, 5}},
		"a chain too many":                {Chains: repeat(3, 9)},
		"a loop too many":                 {Loops: repeat(4, 9)},
		"a chain too many beside loops":   {Chains: repeat(1, 5), Loops: repeat(4, 4)},
		"a loop too many beside chains":   {Chains: repeat(1, 8), Loops: repeat(4, 1)},
		"a chain too many beside 8 loops": {Chains: repeat(30, 1), Loops: repeat(30, 8)},
		"many chains":                     {Chains: repeat(1, 1000)},
		"many chains and loops":           {Chains: repeat(1, 300), Loops: repeat(4, 300)},
	}
	for _, boxes := range []int64{0, 31, 32, -1, -4, 255, 257, 1<<32 + 4, leastInt, greatestInt} {
		name := strconv.FormatInt(boxes, 10)
		bad["a chain of "+name] = impl.Ending{Chains: []int64{boxes}}
		bad["a loop of "+name] = impl.Ending{Loops: []int64{boxes}}
		bad["a chain of "+name+" beside others"] = impl.Ending{Chains: slices.Sorted(slices.Values([]int64{1, 3, boxes})), Loops: []int64{4}}
		bad["a loop of "+name+" beside others"] = impl.Ending{Chains: []int64{1, 3}, Loops: slices.Sorted(slices.Values([]int64{4, boxes}))}
	}
	for _, boxes := range []int64{1, 2, 3} {
		name := strconv.FormatInt(boxes, 10)
		bad["a loop of "+name] = impl.Ending{Loops: []int64{boxes}}
		bad["a loop of "+name+" beside others"] = impl.Ending{Chains: []int64{1}, Loops: []int64{boxes, 4, 4}}
	}
	return bad
}

func TestEndingConstants(t *testing.T) {
	if impl.MaxStrings != 8 || impl.MaxBoxes != 30 {
		t.Errorf("the limits are %d and %d", impl.MaxStrings, impl.MaxBoxes)
	}
}

func TestIsEnding(t *testing.T) {
	good := []impl.Ending{
		{}, {Chains: []int64{}, Loops: []int64{}}, {Chains: []int64{1}}, {Chains: []int64{2}}, {Chains: []int64{3}}, {Chains: []int64{30}},
		{Loops: []int64{4}}, {Loops: []int64{30}}, {Chains: []int64{1, 1, 30, 30}, Loops: []int64{4, 4, 30, 30}},
	}
	for _, x := range slices.Concat(good, manyEndings()) {
		if !impl.IsEnding(x) {
			t.Errorf("%v is an ending", x)
		}
	}
	for name, x := range badEndings() {
		if impl.IsEnding(x) {
			t.Errorf("%s: %v is no ending", name, x)
		}
	}
}

// ErrInvalid comes before all other errors, whatever opening is beside the ending.
func TestEndingsInvalidComesFirst(t *testing.T) {
	for name, bad := range badEndings() {
		value, code := impl.EndingValue(bad)
		wantValue(t, name+": EndingValue", value, code, 0, impl.ErrInvalid)
		wantNoOpening(t, bad, impl.ErrInvalid)
		play, code := impl.PlayEnding(bad)
		wantNoList(t, name+": PlayEnding", play, code, impl.ErrInvalid)
		all, code := impl.BoxesOf(bad)
		wantValue(t, name+": BoxesOf", all, code, 0, impl.ErrInvalid)
		number, code := impl.SparingNumber(bad)
		wantValue(t, name+": SparingNumber", number, code, 0, impl.ErrInvalid)
		long, code := impl.CountLong(bad)
		wantValue(t, name+": CountLong", long, code, 0, impl.ErrInvalid)
		text, code := impl.EndingText(bad)
		wantValue(t, name+": EndingText", text, code, "", impl.ErrInvalid)
		for _, boxes := range slices.Concat(bad.Chains, bad.Loops, []int64{0, -1, 1, 3, 4, 29, 31, leastInt, greatestInt}) {
			wantNothingOpened(t, bad, piece{false, boxes}, impl.ErrInvalid)
			wantNothingOpened(t, bad, piece{true, boxes}, impl.ErrInvalid)
		}
	}
}

// wantNoOpening checks that BestOpening returns an error, and zero values beside it.
func wantNoOpening(t *testing.T, x impl.Ending, want int64) {
	t.Helper()
	loop, boxes, code := impl.BestOpening(x)
	wantValue(t, fmt.Sprint("BestOpening of ", x), piece{loop, boxes}, code, piece{}, want)
}

// wantNothingOpened checks that neither an answer nor a rest is returned behind an opening.
func wantNothingOpened(t *testing.T, x impl.Ending, opened piece, want int64) {
	t.Helper()
	sparing, code := impl.BestAnswer(x, opened.loop, opened.boxes)
	wantValue(t, fmt.Sprint("BestAnswer to ", opened, " of ", x), sparing, code, false, want)
	rest, code := impl.AfterOpening(x, opened.loop, opened.boxes)
	wantNoEnding(t, fmt.Sprint("AfterOpening of ", opened, " of ", x), rest, code, want)
}

func TestEndingThatIsOver(t *testing.T) {
	for _, x := range []impl.Ending{{}, {Chains: []int64{}, Loops: []int64{}}} {
		value, code := impl.EndingValue(x)
		wantValue(t, "EndingValue", value, code, 0, impl.ErrNone)
		wantNoOpening(t, x, impl.ErrState)
		for _, boxes := range []int64{0, 1, 4, 30, 31, -1} {
			wantNothingOpened(t, x, piece{false, boxes}, impl.ErrState)
			wantNothingOpened(t, x, piece{true, boxes}, impl.ErrState)
		}
		play, code := impl.PlayEnding(x)
		wantNoList(t, "PlayEnding", play, code, impl.ErrNone)
		all, code := impl.BoxesOf(x)
		wantValue(t, "BoxesOf", all, code, 0, impl.ErrNone)
		number, code := impl.SparingNumber(x)
		wantValue(t, "SparingNumber", number, code, 0, impl.ErrNone)
		long, code := impl.CountLong(x)
		wantValue(t, "CountLong", long, code, 0, impl.ErrNone)
	}
}

func TestOpeningsThatAreNotThere(t *testing.T) {
	for _, text := range []string{"3;", "3,4;", ";4,6", "1,3,3;4,30", "2,5,5,30;4,4,8"} {
		x := ending(t, text)
		for boxes := int64(-40); boxes <= 70; boxes++ {
			if !slices.Contains(x.Chains, boxes) {
				wantNothingOpened(t, x, piece{false, boxes}, impl.ErrState)
			}
			if !slices.Contains(x.Loops, boxes) {
				wantNothingOpened(t, x, piece{true, boxes}, impl.ErrState)
			}
		}
		for _, boxes := range []int64{256 + 3, 256 + 4, 1<<32 + 3, 1<<32 + 4, leastInt, leastInt + 4, greatestInt} {
			wantNothingOpened(t, x, piece{false, boxes}, impl.ErrState)
			wantNothingOpened(t, x, piece{true, boxes}, impl.ErrState)
		}
	}
}

// playText writes a play with blanks and, between the openings, `/`.
func playText(play [][]int64) string {
	var openings []string
	for _, numbers := range play {
		openings = append(openings, strings.Trim(fmt.Sprint(numbers), "[]"))
	}
	return strings.Join(openings, "/")
}

func TestEndingsOfKnownValue(t *testing.T) {
	tests := []struct {
		text    string
		value   int64
		opening piece
		play    string
	}{
		{"1;", -1, piece{false, 1}, "0 1 0 0"},
		{"2;", -2, piece{false, 2}, "0 2 0 0"},
		{"3;", -3, piece{false, 3}, "0 3 0 0"},
		{"30;", -30, piece{false, 30}, "0 30 0 0"},
		{";4", -4, piece{true, 4}, "1 4 0 0"},
		{";30", -30, piece{true, 30}, "1 30 0 0"},
		// Short chains make the players change their parts.
		{"1,1;", 0, piece{false, 1}, "0 1 0 0/0 1 0 1"},
		{"1,1,1;", -1, piece{false, 1}, "0 1 0 0/0 1 0 1/0 1 0 0"},
		{"1,2;", 1, piece{false, 1}, "0 1 0 0/0 2 0 1"},
		{"2,2;", 0, piece{false, 2}, "0 2 0 0/0 2 0 1"},
		{"1,30;", 29, piece{false, 1}, "0 1 0 0/0 30 0 1"},
		{"1,1,30;", -30, piece{false, 1}, "0 1 0 0/0 1 0 1/0 30 0 0"},
		{"1;4", 3, piece{false, 1}, "0 1 0 0/1 4 0 1"},
		{"1,2;4", -3, piece{false, 1}, "0 1 0 0/0 2 0 1/1 4 0 0"},
		// Sparing answers keep the parts.
		{"3,3;", -2, piece{false, 3}, "0 3 1 0/0 3 0 0"},
		{"3,4;", -3, piece{false, 3}, "0 3 1 0/0 4 0 0"},
		{"4,4;", -4, piece{false, 4}, "0 4 1 0/0 4 0 0"},
		{"4,4,4;", -4, piece{false, 4}, "0 4 1 0/0 4 1 0/0 4 0 0"},
		{";6,6", -4, piece{true, 6}, "1 6 1 0/1 6 0 0"},
		{";8,8", -8, piece{true, 8}, "1 8 1 0/1 8 0 0"},
		// Both answers to the first opening bring the same.
		{"3,3,3;", -1, piece{false, 3}, "0 3 0 0/0 3 1 1/0 3 0 1"},
		{";4,4", 0, piece{true, 4}, "1 4 0 0/1 4 0 1"},
		{"4;4", 0, piece{true, 4}, "1 4 0 0/0 4 0 1"},
		// A loop is better than a chain.
		{"3;4", -1, piece{true, 4}, "1 4 0 0/0 3 0 1"},
		{"5;4", -1, piece{true, 4}, "1 4 1 0/0 5 0 0"},
		{"3;6", -3, piece{true, 6}, "1 6 0 0/0 3 0 1"},
		// A loop does as well as a chain.
		{"3,3;4", -2, piece{false, 3}, "0 3 0 0/1 4 0 1/0 3 0 0"},
		{"3;4,4", -3, piece{false, 3}, "0 3 0 0/1 4 0 1/1 4 0 0"},
		{"4;4,6", -2, piece{false, 4}, "0 4 0 0/1 4 1 1/1 6 0 1"},
		// MaxStrings chains and loops.
		{"1,1,1,1,1,1,1,1;", 0, piece{false, 1}, "0 1 0 0/0 1 0 1/0 1 0 0/0 1 0 1/0 1 0 0/0 1 0 1/0 1 0 0/0 1 0 1"},
		{"30,30,30,30,30,30,30,30;", -26*7 - 30, piece{false, 30}, strings.Repeat("0 30 1 0/", 7) + "0 30 0 0"},
		{";30,30,30,30,30,30,30,30", -22*7 - 30, piece{true, 30}, strings.Repeat("1 30 1 0/", 7) + "1 30 0 0"},
		{"30,30,30,30;30,30,30,30", -26*3 - 22*4 - 30, piece{false, 30}, strings.Repeat("0 30 1 0/", 3) + strings.Repeat("1 30 1 0/", 4) + "0 30 0 0"},
		{";4,4,4,4,4,4,4,4", 0, piece{true, 4}, "1 4 0 0/1 4 0 1/1 4 0 0/1 4 0 1/1 4 0 0/1 4 0 1/1 4 0 0/1 4 0 1"},
	}
	for _, test := range tests {
		x := ending(t, test.text)
		value, code := impl.EndingValue(x)
		wantValue(t, "EndingValue of "+test.text, value, code, test.value, impl.ErrNone)
		loop, boxes, code := impl.BestOpening(x)
		wantValue(t, "BestOpening of "+test.text, piece{loop, boxes}, code, test.opening, impl.ErrNone)
		play, code := impl.PlayEnding(x)
		wantValue(t, "PlayEnding of "+test.text, playText(play), code, test.play, impl.ErrNone)
	}
}

func TestBestAnswer(t *testing.T) {
	tests := []struct {
		text    string
		opened  piece
		sparing bool
	}{
		{"3;", piece{false, 3}, false},
		{"30;", piece{false, 30}, false},
		{";4", piece{true, 4}, false},
		{";30", piece{true, 30}, false},
		{"3,3;", piece{false, 3}, true},
		{"3,4;", piece{false, 3}, true},
		{"3,4;", piece{false, 4}, true},
		{";8,8", piece{true, 8}, true},
		{"5;4", piece{true, 4}, true},
		{"5;4", piece{false, 5}, true},
		{"3;4", piece{false, 3}, true},
		{"3;4", piece{true, 4}, false},
		// What the other player loses by the next opening counts for the greedy answer.
		{"1,2,3;", piece{false, 3}, false},
		{"1,3;", piece{false, 3}, false},
		{"1,1,3;", piece{false, 3}, false},
		// No sparing answer is open to short chains, whatever comes then.
		{"1,30;", piece{false, 1}, false},
		{"2,30;", piece{false, 2}, false},
		{"2;30,30", piece{false, 2}, false},
		{"1,1,1,30;30", piece{false, 1}, false},
		// The same is lost by 4 boxes that are left as by what must be opened.
		{"3,3,3;", piece{false, 3}, false},
		{"4;4", piece{true, 4}, false},
		{"4;4", piece{false, 4}, true},
		{";4,4", piece{true, 4}, false},
		{"2,3;", piece{false, 3}, false},
		{"2,3;", piece{false, 2}, false},
	}
	for _, test := range tests {
		sparing, code := impl.BestAnswer(ending(t, test.text), test.opened.loop, test.opened.boxes)
		wantValue(t, fmt.Sprint("BestAnswer to ", test.opened, " of ", test.text), sparing, code, test.sparing, impl.ErrNone)
	}
}

func TestAfterOpening(t *testing.T) {
	tests := []struct {
		text   string
		opened piece
		want   string
	}{
		{"3;", piece{false, 3}, ";"},
		{";4", piece{true, 4}, ";"},
		{"1,2,3;", piece{false, 1}, "2,3;"},
		{"1,2,3;", piece{false, 2}, "1,3;"},
		{"1,2,3;", piece{false, 3}, "1,2;"},
		{";4,6,30", piece{true, 4}, ";6,30"},
		{";4,6,30", piece{true, 6}, ";4,30"},
		{";4,6,30", piece{true, 30}, ";4,6"},
		{"4,4,4;4,4", piece{false, 4}, "4,4;4,4"},
		{"4,4,4;4,4", piece{true, 4}, "4,4,4;4"},
		{"1,4;4,5", piece{false, 4}, "1;4,5"},
		{"1,4;4,5", piece{true, 4}, "1,4;5"},
		{"1,1,1,30,30;4,30,30", piece{false, 30}, "1,1,1,30;4,30,30"},
		{"1,1,1,30,30;4,30,30", piece{true, 30}, "1,1,1,30,30;4,30"},
	}
	for _, test := range tests {
		rest, code := impl.AfterOpening(ending(t, test.text), test.opened.loop, test.opened.boxes)
		wantEnding(t, fmt.Sprint("AfterOpening of ", test.opened, " of ", test.text), rest, code, ending(t, test.want))
	}
}

// Each function of openings and answers against a second way to find them.
func TestEndingsAgainstLeads(t *testing.T) {
	known := map[string]int64{}
	for _, x := range manyEndings() {
		p := piecesOf(x)
		value, code := impl.EndingValue(x)
		wantValue(t, fmt.Sprint("EndingValue of ", x), value, code, p.lead(0, known), impl.ErrNone)
		if opposite := p.lead(1, known); value != -opposite {
			t.Errorf("%v: the second player gets %d more, the first one %d", x, -opposite, value)
		}
		best := piece{}
		for k, opened := range p {
			leads := p.leadsBehind(k, 0, known)
			sparing, code := impl.BestAnswer(x, opened.loop, opened.boxes)
			want := len(leads) > 1 && leads[1] < leads[0]
			wantValue(t, fmt.Sprint("BestAnswer to ", opened, " of ", x), sparing, code, want, impl.ErrNone)
			rest, code := impl.AfterOpening(x, opened.loop, opened.boxes)
			wantEnding(t, fmt.Sprint("AfterOpening of ", opened, " of ", x), rest, code, p.without(k).ending())
			if best == (piece{}) && slices.Min(leads) == p.lead(0, known) {
				best = opened
			}
		}
		if len(p) > 0 {
			loop, boxes, code := impl.BestOpening(x)
			wantValue(t, fmt.Sprint("BestOpening of ", x), piece{loop, boxes}, code, best, impl.ErrNone)
		}
	}
}

func TestBoxesAndLongChains(t *testing.T) {
	tests := []struct {
		text      string
		all, long int64
	}{
		{"1;", 1, 0},
		{"2;", 2, 0},
		{"3;", 3, 1},
		{"30;", 30, 1},
		{";4", 4, 0},
		{";4,30", 34, 0},
		{"1,1,2,2;", 6, 0},
		{"1,2,3,4;", 10, 2},
		{"2,3,3,3;5,6", 22, 3},
		{"3,3,3,3,3,3,3,3;", 24, 8},
		{"30,30,30,30,30,30,30,30;", 240, 8},
		{";30,30,30,30,30,30,30,30", 240, 0},
	}
	for _, test := range tests {
		x := ending(t, test.text)
		all, code := impl.BoxesOf(x)
		wantValue(t, "BoxesOf "+test.text, all, code, test.all, impl.ErrNone)
		long, code := impl.CountLong(x)
		wantValue(t, "CountLong of "+test.text, long, code, test.long, impl.ErrNone)
	}
	for _, x := range manyEndings() {
		all, code := impl.BoxesOf(x)
		wantValue(t, fmt.Sprint("BoxesOf ", x), all, code, piecesOf(x).boxes(), impl.ErrNone)
		long, code := impl.CountLong(x)
		wantValue(t, fmt.Sprint("CountLong of ", x), long, code, longOf(x), impl.ErrNone)
	}
}

// longOf counts the chains to which a sparing answer is open.
func longOf(x impl.Ending) int64 {
	count := int64(0)
	for _, one := range piecesOf(x) {
		if !one.loop && len(one.shares()) == 2 {
			count++
		}
	}
	return count
}

func TestSparingNumber(t *testing.T) {
	tests := map[string]int64{
		";":                        0,
		"1;":                       1,
		"2;":                       2,
		"3;":                       3,
		"30;":                      30,
		";4":                       4,
		";30":                      30,
		"3,4;":                     -1 + 4,
		"3,3,3,3;":                 -1 - 1 - 1 + 3,
		"4,5,10;":                  0 + 1 + 10,
		";4,4":                     -4 + 4,
		";4,6,10":                  -4 - 2 + 10,
		"3;4":                      -1 + 4,
		"30;4":                     26 + 4,
		"5;4,8":                    1 - 4 + 8,
		"3,5;6,7,8":                -1 + 1 - 2 - 1 + 8,
		"1,1;":                     1 - 1,
		"1,2;":                     1 - 2,
		"1,1,2;":                   1 - 1 + 2,
		"2,2,2,2;":                 2 - 2 + 2 - 2,
		"1,10;":                    1 - 10,
		"1,2,10;":                  1 - 2 + 10,
		"1,4,10;":                  1 - (0 + 10),
		"2,3,4,5;":                 2 - (-1 + 0 + 5),
		"1,2,3;4":                  1 - 2 + (-1 + 4),
		"2,3;4,9":                  2 - (-1 - 4 + 9),
		"1,1,2;4,4":                1 - 1 + 2 - (-4 + 4),
		"1;30":                     1 - 30,
		"1,2;30":                   1 - 2 + 30,
		"1,2,3,4,5,6,7,8;":         1 - 2 + (-1 + 0 + 1 + 2 + 3 + 8),
		"30,30,30,30,30,30,30,30;": 26*7 + 30,
		";30,30,30,30,30,30,30,30": 22*7 + 30,
		"1,1,1,1,1,1,1,1;":         0,
	}
	for text, want := range tests {
		number, code := impl.SparingNumber(ending(t, text))
		wantValue(t, "SparingNumber of "+text, number, code, want, impl.ErrNone)
	}
	for _, x := range manyEndings() {
		number, code := impl.SparingNumber(x)
		wantValue(t, fmt.Sprint("SparingNumber of ", x), number, code, sparingLead(piecesOf(x)), impl.ErrNone)
	}
}

// sparingLead plays with sparing answers as long as it goes, and returns by how many boxes the
// taker of the first opening is ahead.
func sparingLead(p pieces) int64 {
	var got [2]int64
	opener, taker := 1, 0
	for k, opened := range p {
		shares := opened.shares()
		s := shares[len(shares)-1]
		if k == len(p)-1 {
			s = shares[0]
		}
		got[opener] += s.opener
		got[taker] += s.taker
		if s.takerMoves {
			opener, taker = taker, opener
		}
	}
	return got[0] - got[1]
}

func TestTurnsOf(t *testing.T) {
	tests := []struct{ r, c, d, want int64 }{
		{1, 1, 0, 4},
		{1, 2, 0, 6},
		{1, 2, 1, 7},
		{2, 1, 1, 7},
		{2, 2, 1, 10},
		{2, 2, 2, 11},
		{3, 3, 0, 16},
		{3, 3, 4, 20},
		{5, 5, 12, 48},
		{1, 1000, 0, 2002},
		{1, 1000, 500, 2502},
		{1000, 1, 500, 2502},
		{999, 999, 499000, 1499000},
		{1000, 1000, 0, 1002001},
		{1000, 1000, 500000, 1502001},
	}
	for _, test := range tests {
		turns, code := impl.TurnsOf(test.r, test.c, test.d)
		wantValue(t, fmt.Sprint("TurnsOf ", test), turns, code, test.want, impl.ErrNone)
	}
	// One turn ends with each move that takes no box, and the last one with the play.
	for r := int64(1); r <= 12; r++ {
		for c := int64(1); c <= 12; c++ {
			for d := int64(0); d+d <= r*c; d++ {
				moves, takingMoves := r*(c+1)+(r+1)*c, r*c-d
				turns, code := impl.TurnsOf(r, c, d)
				wantValue(t, fmt.Sprint("TurnsOf ", r, c, d), turns, code, moves-takingMoves+1, impl.ErrNone)
			}
		}
	}
}

func TestTurnsOfRange(t *testing.T) {
	bad := [][3]int64{
		{0, 1, 0}, {1, 0, 0}, {0, 0, 0}, {-1, 1, 0}, {1, -1, 0}, {-1, -1, 0}, {-2, -2, 1}, {1001, 1, 0}, {1, 1001, 0}, {1001, 1001, 0},
		{leastInt, 1, 0}, {1, leastInt, 0}, {greatestInt, 1, 0}, {1, greatestInt, 0}, {greatestInt, greatestInt, 0}, {leastInt, leastInt, leastInt}, {1 << 32, 1 << 32, 0},
		{1, 1, -1}, {2, 2, -1}, {1000, 1000, -1}, {5, 5, leastInt}, {5, 5, greatestInt}, {0, 5, 9}, {1001, 5, -9},
		{1, 1, 1}, {1, 2, 2}, {2, 2, 3}, {3, 3, 5}, {1, 1000, 501}, {999, 999, 499001}, {1000, 1000, 500001},
	}
	for _, numbers := range bad {
		turns, code := impl.TurnsOf(numbers[0], numbers[1], numbers[2])
		wantValue(t, fmt.Sprint("TurnsOf ", numbers), turns, code, 0, impl.ErrRange)
	}
}

func TestBestParts(t *testing.T) {
	tests := []struct {
		n, k int64
		want []int64
	}{
		{1, 1, []int64{1}},
		{20, 1, []int64{20}},
		{2, 2, []int64{1, 1}},
		{3, 2, []int64{1, 2}},
		{4, 2, []int64{1, 3}},
		{20, 2, []int64{1, 19}},
		{3, 3, []int64{1, 1, 1}},
		{4, 3, []int64{1, 1, 2}},
		{5, 3, []int64{1, 2, 2}},
		{6, 3, []int64{1, 2, 3}},
		{6, 6, []int64{1, 1, 1, 1, 1, 1}},
		{7, 6, []int64{1, 1, 1, 1, 1, 2}},
		{20, 6, []int64{1, 1, 1, 1, 1, 15}},
	}
	for _, test := range tests {
		parts, code := impl.BestParts(test.n, test.k)
		wantList(t, fmt.Sprint("BestParts ", test.n, test.k), parts, code, test.want)
	}
}

func TestBestPartsAgainstLeads(t *testing.T) {
	known := map[string]int64{}
	for n := int64(1); n <= 20; n++ {
		for k := int64(1); k <= min(6, n); k++ {
			parts, code := impl.BestParts(n, k)
			wantList(t, fmt.Sprint("BestParts ", n, k), parts, code, bestList(n, k, known))
		}
	}
}

// bestList finds the first one of the best lists among all lists of k numbers up to n.
func bestList(n, k int64, known map[string]int64) []int64 {
	var best []int64
	most := int64(leastInt)
	list := repeat(1, int(k))
	for list != nil {
		p := piecesOf(impl.Ending{Chains: list})
		if lead := p.lead(0, known); p.boxes() == n && lead > most {
			best, most = slices.Clone(list), lead
		}
		list = nextAscending(list, n)
	}
	return best
}

// nextAscending returns the next ascending list of as many numbers with at most the sum n.
func nextAscending(list []int64, n int64) []int64 {
	for k := len(list) - 1; k >= 0; k-- {
		next := append(slices.Clone(list[:k]), repeat(list[k]+1, len(list)-k)...)
		if piecesOf(impl.Ending{Chains: next}).boxes() <= n {
			return next
		}
	}
	return nil
}

func TestBestPartsRange(t *testing.T) {
	bad := [][2]int64{
		{0, 0}, {0, 1}, {-1, 1}, {21, 1}, {21, 6}, {leastInt, 1}, {greatestInt, 1}, {1<<32 + 5, 2},
		{5, 0}, {5, -1}, {20, 7}, {7, 7}, {20, 20}, {20, leastInt}, {20, greatestInt}, {20, 1<<32 + 2},
		{1, 2}, {2, 3}, {3, 4}, {4, 5}, {5, 6}, {1, 6}, {-3, -3}, {21, 7},
	}
	for _, numbers := range bad {
		parts, code := impl.BestParts(numbers[0], numbers[1])
		wantNoList(t, fmt.Sprint("BestParts ", numbers), parts, code, impl.ErrRange)
	}
}

// Promise 4: values have the parity of the number of boxes.
func TestValuesHaveTheParityOfBoxes(t *testing.T) {
	for _, x := range slices.Concat(allEndings(4), manyEndings()) {
		value, code := impl.EndingValue(x)
		all, second := impl.BoxesOf(x)
		if code != impl.ErrNone || second != impl.ErrNone || (value-all)%2 != 0 || max(value, -value) > all {
			t.Errorf("%v: value %d, code %d, of %d boxes, code %d", x, value, code, all, second)
		}
	}
}

// Promise 4: plays by best openings and answers reach the values, and PlayEnding tells them.
func TestPlaysOfEndingsReachTheirValues(t *testing.T) {
	for _, x := range slices.Concat(allEndings(4), manyEndings()) {
		var got [2]int64
		var want [][]int64
		opener := int64(0)
		rest := x
		for len(rest.Chains)+len(rest.Loops) > 0 {
			loop, boxes, _ := impl.BestOpening(rest)
			sparing, _ := impl.BestAnswer(rest, loop, boxes)
			opening := []int64{0, boxes, 0, opener}
			s := piece{loop, boxes}.shares()[0]
			if loop {
				opening[0] = 1
			}
			if sparing {
				opening[2] = 1
				s = piece{loop, boxes}.shares()[1]
			}
			want = append(want, opening)
			got[opener] += s.opener
			got[1-opener] += s.taker
			if s.takerMoves {
				opener = 1 - opener
			}
			next, code := impl.AfterOpening(rest, loop, boxes)
			if code != impl.ErrNone || len(next.Chains)+len(next.Loops) >= len(rest.Chains)+len(rest.Loops) {
				t.Fatalf("%v: AfterOpening = %v, code %d", rest, next, code)
			}
			rest = next
		}
		value, code := impl.EndingValue(x)
		wantValue(t, fmt.Sprint("EndingValue of ", x), value, code, got[0]-got[1], impl.ErrNone)
		play, code := impl.PlayEnding(x)
		wantValue(t, fmt.Sprint("PlayEnding of ", x), playText(play), code, playText(want), impl.ErrNone)
	}
}

// Endings that stand on boards of dots and boxes have the net scores of these.
func TestEndingsAreEndsOfBoxes(t *testing.T) {
	boards := map[string]string{
		"1x1:1100":                     "1;",
		"1x2:1110000":                  "1,1;",
		"1x3:1111000000":               "1,1,1;",
		"2x1:1111000":                  "2;",
		"2x2:111111000000":             "2,2;",
		"3x1:1111110000":               "3;",
		"3x2:11111111100000000":        "3,3;",
		"3x3:111111111111000000000000": "3,3,3;",
		"1x3:0000111111":               "3;",
		"2x2:110011101101":             ";4",
		"3x2:11101011110011001":        ";6",
		"3x3:111010010111100111111001": ";8",
		"3x1:0010111100":               "1,2;",
		"3x2:11000011010111011":        "2;4",
		"3x3:110000110111101110110001": "5;4",
	}
	for board, text := range boards {
		value, code := impl.EndingValue(ending(t, text))
		score, second := impl.NetScore(boxes(t, board))
		if code != impl.ErrNone || second != impl.ErrNone {
			t.Fatalf("%s and %s: codes %d and %d", board, text, second, code)
		}
		if value != score {
			t.Errorf("%s: value %d of %s, net score %d", board, value, text, score)
		}
	}
}

func TestEndingText(t *testing.T) {
	tests := map[string]impl.Ending{
		";":                        {},
		"1;":                       {Chains: []int64{1}},
		"1,3;":                     {Chains: []int64{1, 3}},
		";4":                       {Loops: []int64{4}},
		";4,4,30":                  {Loops: []int64{4, 4, 30}},
		"1,3;4":                    {Chains: []int64{1, 3}, Loops: []int64{4}},
		"10,20,30;10,20,30":        {Chains: []int64{10, 20, 30}, Loops: []int64{10, 20, 30}},
		"2,2,2,2,2,2,2,2;":         {Chains: repeat(2, 8)},
		"30,30,30,30;30,30,30,30":  {Chains: repeat(30, 4), Loops: repeat(30, 4)},
		";4,5,6,7,8,9,10,11":       {Loops: upTo(4, 11)},
		"1,2,3,4,5,6,7;8":          {Chains: upTo(1, 7), Loops: []int64{8}},
		"1,1,9,10,11,19,20;30":     {Chains: []int64{1, 1, 9, 10, 11, 19, 20}, Loops: []int64{30}},
		"3;4,9,10,12,22,29,30":     {Chains: []int64{3}, Loops: []int64{4, 9, 10, 12, 22, 29, 30}},
		";30,30,30,30,30,30,30,30": {Chains: []int64{}, Loops: repeat(30, 8)},
		"1;4":                      {Chains: []int64{1}, Loops: []int64{4}},
		"1,10,10,11;10,10,20,30":   {Chains: []int64{1, 10, 10, 11}, Loops: []int64{10, 10, 20, 30}},
		"30,30,30,30,30,30,30,30;": {Chains: repeat(30, 8)},
	}
	for want, x := range tests {
		text, code := impl.EndingText(x)
		wantValue(t, "EndingText", text, code, want, impl.ErrNone)
		again, code := impl.ParseEnding(want)
		wantEnding(t, "ParseEnding of "+want, again, code, x)
	}
}

func TestEndingsComeBackFromTheirTexts(t *testing.T) {
	for _, x := range manyEndings() {
		again, code := impl.ParseEnding(endingText(t, x))
		wantEnding(t, "ParseEnding", again, code, x)
	}
}

func TestParseEndingSyntax(t *testing.T) {
	bad := []string{
		// A `;` is missing, or there are too many.
		"", "1", "3,4", "4", ",", ";;", "1;;", ";;4", "1;4;", ";1;4", "1;4;6", "1;4;;", "3;4\n3;4",
		// A `,` too many, or a number is missing.
		",;", ";,", ",;,", ",1;", "1,;", ",1,;", "1,,2;", ";4,", ";,4", ";4,,6", "1,3,;4", "1,3;,4", "1,3;4,", ",;4", "1;,",
		// Superfluous zeros and signs.
		"01;", "1,03;", ";04", ";4,06", "00;", "001;4", "1;0004", "+1;", ";+4", "1,+3;", "1.0;", "1e0;", "0x3;", ";0x4", "1_0;", ";1_0",
		// Other signs.
		" ;", "; ", " 1;", "1 ;", "1; ", "1, 3;", "1 ,3;", "1 3;", "1.3;", "1:4", "1/4", "1,3 4", "1;4 6", "a;", ";a", "1;4a", "x1;4", "1;4\n", "1\n;4", "\t1;4", "\ufeff1;4",
		"1;4\x00", "1\x00;4", "1,3：4", "1；4", "1，3;4", "１;", ";４", "[1];[4]", "1;4\xff", "-;", ";-", "\xff;",
		// Numbers of no chain or loop.
		"0;", "31;", "-1;", "-0;", "1,31;", "0,1;", ";3", ";0", ";1", ";2", ";31", ";-4", ";3,4", ";4,31", "100;", "257;", ";260",
		"9223372036854775807;", "9223372036854775808;", "-9223372036854775808;", "18446744073709551617;", ";18446744073709551620", ";4294967300",
		// Lists that descend.
		"2,1;", "30,1;", "1,3,2;", "10,9;", "3,3,2;4", ";5,4", ";30,4", ";4,6,5", "1;10,9", ";10,4",
		// Too many chains and loops.
		"1,1,1,1,1,1,1,1,1;", ";4,4,4,4,4,4,4,4,4", "1,1,1,1,1,1,1,1;4", "1;4,4,4,4,4,4,4,4", "3,3,3,3,3;4,4,4,4",
		strings.Repeat("1,", 5000) + "1;", ";" + strings.Repeat("4,", 5000) + "4", strings.Repeat(",", 5000) + ";", strings.Repeat(";", 5000), strings.Repeat("1", 5000) + ";",
	}
	for _, text := range bad {
		x, code := impl.ParseEnding(text)
		wantNoEnding(t, "ParseEnding of "+strconv.Quote(text), x, code, impl.ErrSyntax)
	}
	// A text with one byte changed, left out or added is one of another ending, or of none.
	for _, text := range []string{";", "1,3;4", "3,10,30;4,12", "1,2,3,4;4,5,6,30"} {
		for changed := range changedTexts(text) {
			wantEndingOrNone(t, changed)
		}
	}
}

// wantEndingOrNone checks that a text is read exactly if it is the text of an ending.
func wantEndingOrNone(t *testing.T, text string) {
	t.Helper()
	x, code := impl.ParseEnding(text)
	if !isTextOfEnding(text) {
		wantNoEnding(t, "ParseEnding of "+strconv.Quote(text), x, code, impl.ErrSyntax)
	} else if code != impl.ErrNone || endingText(t, x) != text {
		t.Errorf("ParseEnding(%q) = %v, code %d", text, x, code)
	}
}

var endingForm = regexp.MustCompile(`^((?:[1-9]|[12][0-9]|30)(?:,(?:[1-9]|[12][0-9]|30))*)?;((?:[4-9]|[12][0-9]|30)(?:,(?:[4-9]|[12][0-9]|30))*)?\z`)

// isTextOfEnding reports whether a text has the form of one of an ending, and its numbers ascend.
func isTextOfEnding(text string) bool {
	parts := endingForm.FindStringSubmatch(text)
	if parts == nil {
		return false
	}
	count := 0
	for _, part := range parts[1:] {
		last := ""
		for _, word := range strings.FieldsFunc(part, func(sign rune) bool { return sign == ',' }) {
			if len(word) < len(last) || len(word) == len(last) && word < last {
				return false
			}
			last = word
			count++
		}
	}
	return count <= 8
}

func TestEndingArgumentsStayAsTheyAre(t *testing.T) {
	for _, text := range []string{"1,3,3,4;4,6,6", "3,4;", ";4,5", "1,1,2,5;4,4,6,30"} {
		want := ending(t, text)
		chains, allChains := roomy(want.Chains)
		loops, allLoops := roomy(want.Loops)
		x := impl.Ending{Chains: chains, Loops: loops}
		impl.IsEnding(x)
		impl.EndingValue(x)
		impl.BestOpening(x)
		impl.BoxesOf(x)
		impl.SparingNumber(x)
		impl.CountLong(x)
		impl.EndingText(x)
		for _, numbers := range first(impl.PlayEnding(x)) {
			spoil(numbers)
		}
		for _, opened := range piecesOf(want) {
			impl.BestAnswer(x, opened.loop, opened.boxes)
			rest := first(impl.AfterOpening(x, opened.loop, opened.boxes))
			spoil(rest.Chains)
			spoil(rest.Loops)
		}
		room := repeat(77, 3)
		if !slices.Equal(allChains, append(want.Chains, room...)) || !slices.Equal(allLoops, append(want.Loops, room...)) {
			t.Errorf("%s has become %v and %v", text, allChains, allLoops)
		}
	}
}

// A change of one list of a result leaves its other lists, and later results, as they are.
func TestListsOfEndingsAreNew(t *testing.T) {
	results := map[string]struct {
		of   func() impl.Ending
		want string
	}{
		"ParseEnding":            {func() impl.Ending { return ending(t, "1,3;4,5") }, "1,3;4,5"},
		"AfterOpening, a chain":  {func() impl.Ending { return first(impl.AfterOpening(ending(t, "1,3;4,5"), false, 1)) }, "3;4,5"},
		"AfterOpening, a loop":   {func() impl.Ending { return first(impl.AfterOpening(ending(t, "1,3;4,5"), true, 5)) }, "1,3;4"},
		"AfterOpening, at first": {func() impl.Ending { return first(impl.AfterOpening(ending(t, "1,3;4,5"), true, 4)) }, "1,3;5"},
	}
	for name, result := range results {
		for range 3 {
			want := ending(t, result.want)
			x := result.of()
			wantEnding(t, name, x, impl.ErrNone, want)
			spoil(append(x.Chains, 1, 2))
			spoil(x.Chains)
			wantEnding(t, name, impl.Ending{Loops: x.Loops}, impl.ErrNone, impl.Ending{Loops: want.Loops})
			x = result.of()
			spoil(append(x.Loops, 1, 2))
			spoil(x.Loops)
			wantEnding(t, name, impl.Ending{Chains: x.Chains}, impl.ErrNone, impl.Ending{Chains: want.Chains})
		}
	}
	for range 3 {
		parts, code := impl.BestParts(5, 3)
		wantList(t, "BestParts", parts, code, []int64{1, 2, 2})
		spoil(parts)
		for k := range 3 {
			play, code := impl.PlayEnding(ending(t, "1,3;4"))
			want, _ := impl.PlayEnding(ending(t, "1,3;4"))
			spoil(append(play[k], 1, 2))
			spoil(play[k])
			play[k] = want[k]
			if code != impl.ErrNone || !reflect.DeepEqual(play, want) {
				t.Errorf("opening %d shares memory: %v, want %v", k, play, want)
			}
		}
	}
}
