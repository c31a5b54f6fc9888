package tests

import (
	"reflect"
	"slices"
	"strings"
	"testing"

	"loop.example/g01388/impl"
)

// sprouts returns the position with a text.
func sprouts(t *testing.T, text string) impl.Sprouts {
	t.Helper()
	x, code := impl.ParseSprouts(text)
	if code != impl.ErrNone {
		t.Fatalf("ParseSprouts(%q): code %d", text, code)
	}
	return x
}

// textOf returns the text of a position.
func textOf(t *testing.T, x impl.Sprouts) string {
	t.Helper()
	text, code := impl.SproutsText(x)
	if code != impl.ErrNone {
		t.Fatalf("SproutsText(%v): code %d", x, code)
	}
	return text
}

// wantSprouts checks a position, by its text and its number of spots, and the code beside it.
func wantSprouts(t *testing.T, what string, got impl.Sprouts, code int64, want string) {
	t.Helper()
	if code != impl.ErrNone || !impl.IsSprouts(got) || textOf(t, got) != want || got.Spots != sprouts(t, want).Spots {
		t.Errorf("%s = %v, code %d; want %q", what, got, code, want)
	}
}

// wantNoSprouts checks that a position is the zero value beside the code of an error.
func wantNoSprouts(t *testing.T, what string, got impl.Sprouts, code, want int64) {
	t.Helper()
	if code != want || got.Spots != 0 || len(got.Regions) != 0 {
		t.Errorf("%s = %v, code %d; want nothing and code %d", what, got, code, want)
	}
}

// region returns a region with some boundaries.
func region(boundaries ...[]int64) [][]int64 { return boundaries }

// position returns a position of some spots with some regions, whether it is one or not.
func position(spots int64, regions ...[][]int64) impl.Sprouts {
	return impl.Sprouts{Spots: spots, Regions: regions}
}

// dead returns the letters from first to last, each of them three times.
func dead(first, last byte) string {
	text := ""
	for letter := first; letter <= last; letter++ {
		text += strings.Repeat(string(rune(letter)), 3)
	}
	return text
}

// deadOnes returns the letters from first to last, each of them three times in a boundary of its own.
func deadOnes(first, last byte) string {
	var words []string
	for letter := first; letter <= last; letter++ {
		words = append(words, dead(letter, letter))
	}
	return strings.Join(words, ",")
}

// aloneOnes returns the letters from first to last, each one a boundary alone.
func aloneOnes(first, last byte) string {
	var words []string
	for letter := first; letter <= last; letter++ {
		words = append(words, string(rune(letter)))
	}
	return strings.Join(words, ",")
}

// badSprouts returns some of each kind of what is not a sprouts position.
func badSprouts() map[string]impl.Sprouts {
	one := []int64{0}
	many := position(21, nil)
	for spot := range int64(21) {
		many.Regions[0] = append(many.Regions[0], []int64{spot})
	}
	return map[string]impl.Sprouts{
		"zero value":                      {},
		"no spots, a region":              position(0, nil),
		"no region":                       position(1),
		"no region, empty list":           {Spots: 1, Regions: [][][]int64{}},
		"21 spots":                        many,
		"spots of the greatest number":    position(greatestInt, region(one)),
		"spots of a great number":         position(1<<32+1, region(one)),
		"spots of the least number":       position(leastInt, region(one)),
		"fewer spots than none":           position(-1, region(one)),
		"regions without boundaries":      position(1, nil, region(), nil),
		"an empty boundary":               position(1, region(one, nil)),
		"an empty boundary, alone":        position(1, region([]int64{})),
		"an empty boundary in region 1":   position(1, region(one), region(nil)),
		"a spot nowhere":                  position(2, region(one)),
		"the first spot nowhere":          position(2, region([]int64{1})),
		"a spot in the middle nowhere":    position(3, region([]int64{0, 2})),
		"a spot in four places":           position(1, region([]int64{0, 0, 0, 0})),
		"a spot in four boundaries":       position(2, region([]int64{0, 0}, []int64{0, 1}), region([]int64{1, 0})),
		"a spot in many places":           position(1, region(repeat(0, 300))),
		"a spot alone and in a boundary":  position(2, region(one, []int64{0, 1})),
		"a spot in a boundary and alone":  position(2, region([]int64{1, 0}), region(one)),
		"a spot alone twice":              position(1, region(one, one)),
		"a spot alone in two regions":     position(1, region(one), region(one)),
		"a spot of the number of spots":   position(1, region(one, []int64{1})),
		"a spot of the number 20":         position(20, region([]int64{20})),
		"a negative spot":                 position(1, region([]int64{0, -1})),
		"a negative spot alone":           position(1, region([]int64{-1})),
		"the least number as a spot":      position(1, region(one, []int64{leastInt})),
		"the greatest number as a spot":   position(1, region(one, []int64{greatestInt})),
		"a great number as a spot":        position(1, region([]int64{1 << 32})),
		"wrong in the last region only":   position(2, region(one, []int64{1}), nil, region([]int64{1, 1})),
		"one spot more than there may be": position(2, region([]int64{0, 1, 2})),
	}
}

func TestSproutConstants(t *testing.T) {
	if impl.MaxSprouts != 20 || impl.MaxLives != 6 || impl.MaxBoundaries != 8 {
		t.Errorf("the limits are %d, %d and %d", impl.MaxSprouts, impl.MaxLives, impl.MaxBoundaries)
	}
}

func TestStartOf(t *testing.T) {
	for n, want := range map[int64]string{1: "a", 2: "a,b", 3: "a,b,c", 4: "a,b,c,d", 5: "a,b,c,d,e", 6: "a,b,c,d,e,f"} {
		x, code := impl.StartOf(n)
		wantSprouts(t, "StartOf", x, code, want)
		lives, code := impl.LivesOf(x)
		wantValue(t, "LivesOf", lives, code, 3*n, impl.ErrNone)
	}
	for _, n := range []int64{0, 7, -1, 8, 20, leastInt, greatestInt, 1<<32 + 1} {
		x, code := impl.StartOf(n)
		wantNoSprouts(t, "StartOf", x, code, impl.ErrRange)
	}
}

func TestIsSprouts(t *testing.T) {
	good := map[string]impl.Sprouts{
		"a spot alone":                  position(1, region([]int64{0})),
		"a spot in two places":          position(1, region([]int64{0, 0})),
		"a spot in three places":        position(1, region([]int64{0, 0, 0})),
		"three places in two regions":   position(2, region([]int64{0, 1}), region([]int64{1, 0, 0})),
		"two spots of degree 1":         position(2, region([]int64{0, 1})),
		"a region without boundaries":   position(1, nil, region([]int64{0}), region()),
		"twenty spots alone":            sprouts(t, aloneOnes('a', 't')),
		"twenty spots without lives":    sprouts(t, dead('a', 't')),
		"many regions of no boundaries": {Spots: 1, Regions: append(make([][][]int64, 100), region([]int64{0}))},
		"behind two moves":              sprouts(t, "acbdbcad/cbd"),
	}
	for name, x := range good {
		if !impl.IsSprouts(x) {
			t.Errorf("%s: %v is a position", name, x)
		}
	}
	for name, x := range badSprouts() {
		if impl.IsSprouts(x) {
			t.Errorf("%s: %v is no position", name, x)
		}
	}
}

// ErrInvalid comes before all other errors, whatever moves and numbers are beside the position.
func TestSproutsInvalidComesFirst(t *testing.T) {
	for name, bad := range badSprouts() {
		degrees, code := impl.DegreesOf(bad)
		wantNoList(t, name+": DegreesOf", degrees, code, impl.ErrInvalid)
		lives, code := impl.LivesOf(bad)
		wantValue(t, name+": LivesOf", lives, code, 0, impl.ErrInvalid)
		moves, code := impl.SproutMoves(bad)
		wantNoList(t, name+": SproutMoves", moves, code, impl.ErrInvalid)
		for _, move := range [][]int64{nil, {0, 0, 0, 0, 0, 0}, {-1, 0, 0, 0, 0, 0}, {0, 1, 0, 0, 0, 0}, {9, 9, 9, 9, 9, 9, 9}} {
			after, code := impl.MakeSproutMove(bad, move)
			wantNoSprouts(t, name+": MakeSproutMove", after, code, impl.ErrInvalid)
		}
		grundy, code := impl.SproutGrundy(bad)
		wantValue(t, name+": SproutGrundy", grundy, code, 0, impl.ErrInvalid)
		least, most, code := impl.SproutLengths(bad)
		wantValue(t, name+": SproutLengths", [2]int64{least, most}, code, [2]int64{}, impl.ErrInvalid)
		move, code := impl.FirstWinningMove(bad)
		wantNoList(t, name+": FirstWinningMove", move, code, impl.ErrInvalid)
		for _, k := range []int64{0, -1, 1001} {
			end, made, code := impl.PlaySprouts(bad, k)
			wantNoSprouts(t, name+": PlaySprouts", end, code, impl.ErrInvalid)
			wantValue(t, name+": moves of PlaySprouts", made, code, 0, impl.ErrInvalid)
		}
		text, code := impl.SproutsText(bad)
		wantValue(t, name+": SproutsText", text, code, "", impl.ErrInvalid)
	}
}

func TestDegreesAndLives(t *testing.T) {
	tests := []struct {
		text    string
		degrees []int64
		lives   int64
	}{
		{"a", []int64{0}, 3},
		{"/a/", []int64{0}, 3},
		{"aa", []int64{2}, 1},
		{"aaa", []int64{3}, 0},
		{"ab", []int64{1, 1}, 4},
		{"acbc", []int64{1, 1, 2}, 5},
		{"ac/ac,b", []int64{2, 0, 2}, 5},
		{"ba/ca/da", []int64{3, 1, 1, 1}, 6},
		{"d,ab/c,ab", []int64{2, 2, 0, 0}, 8},
		{"c/ab,abb", []int64{2, 3, 0}, 4},
		{aloneOnes('a', 't'), repeat(0, 20), 60},
		{dead('a', 't'), repeat(3, 20), 0},
	}
	for _, test := range tests {
		x := sprouts(t, test.text)
		degrees, code := impl.DegreesOf(x)
		wantList(t, test.text+": DegreesOf", degrees, code, test.degrees)
		lives, code := impl.LivesOf(x)
		wantValue(t, test.text+": LivesOf", lives, code, test.lives, impl.ErrNone)
	}
}

func TestSproutMoves(t *testing.T) {
	tests := []struct {
		text  string
		moves [][]int64
	}{
		{"a", [][]int64{{0, 0, 0, 0, 0, 0}}},
		{"/a/", [][]int64{{1, 0, 0, 0, 0, 0}}},
		{"a,b", [][]int64{{0, 0, 0, 0, 0, 0}, {0, 0, 0, 0, 0, 2}, {0, 0, 0, 1, 0, 0}, {0, 1, 0, 1, 0, 0}, {0, 1, 0, 1, 0, 1}}},
		// Two lives are needed for a line from a spot to itself, also from one of its places to another.
		{"ab", [][]int64{{0, 0, 0, 0, 0, 0}, {0, 0, 0, 0, 1, 0}, {0, 0, 1, 0, 1, 0}}},
		{"aa", nil},
		{"aabb", [][]int64{{0, 0, 0, 0, 2, 0}, {0, 0, 0, 0, 3, 0}, {0, 0, 1, 0, 2, 0}, {0, 0, 1, 0, 3, 0}}},
		{"ab,ab", [][]int64{{0, 0, 0, 0, 1, 0}, {0, 0, 0, 0, 1, 2}, {0, 0, 0, 1, 1, 0}, {0, 0, 1, 1, 0, 0}, {0, 1, 0, 1, 1, 0}, {0, 1, 0, 1, 1, 1}}},
		// Spots without lives have no lines, but their boundaries can be cut off.
		{"aaa,b", [][]int64{{0, 1, 0, 1, 0, 0}, {0, 1, 0, 1, 0, 1}}},
		{"aab/ac", [][]int64{{0, 0, 2, 0, 2, 0}, {1, 0, 1, 0, 1, 0}}},
		{"aba/ca", [][]int64{{0, 0, 1, 0, 1, 0}, {1, 0, 0, 0, 0, 0}}},
		// Lives in different regions cannot be joined.
		{"aa/bb/cc", nil},
		{"aaa", nil},
		{dead('a', 't'), nil},
	}
	for _, test := range tests {
		moves, code := impl.SproutMoves(sprouts(t, test.text))
		if code != impl.ErrNone || len(moves)+len(test.moves) > 0 && !reflect.DeepEqual(moves, test.moves) {
			t.Errorf("SproutMoves(%q) = %v, code %d; want %v", test.text, moves, code, test.moves)
		}
	}
}

// Of twelve places in one boundary 60 pairs have different spots, each with 128 ways to cut off some
// of seven others.
func TestSproutMovesOfManyPlaces(t *testing.T) {
	moves, code := impl.SproutMoves(sprouts(t, "abcdefabcdef,"+deadOnes('g', 'm')))
	if code != impl.ErrNone || len(moves) != 60*128 || !slices.IsSortedFunc(moves, slices.Compare[[]int64]) {
		t.Errorf("%d moves, code %d", len(moves), code)
	}
	wantList(t, "the last move", moves[len(moves)-1], code, []int64{0, 0, 10, 0, 11, 254})
}

func TestMakeSproutMove(t *testing.T) {
	tests := []struct {
		text string
		move []int64
		want string
	}{
		// Lines between two boundaries.
		{"a,b", []int64{0, 0, 0, 1, 0, 0}, "acbc"},
		{"ab,c", []int64{0, 0, 0, 1, 0, 0}, "abadcd"},
		{"ab,c", []int64{0, 0, 1, 1, 0, 0}, "babdcd"},
		{"c,ab", []int64{0, 0, 0, 1, 1, 0}, "cdbabd"},
		{"ab,cd", []int64{0, 0, 1, 1, 0, 0}, "babecdce"},
		{"abc,de", []int64{0, 0, 2, 1, 1, 0}, "cabcfedef"},
		{"a,b,c,d", []int64{0, 0, 0, 2, 0, 0}, "b,d,aece"},
		{"a,bc,d,ef", []int64{0, 1, 1, 3, 0, 0}, "a,d,cbcgefeg"},
		{"/a,b/c", []int64{1, 0, 0, 1, 0, 0}, "/adbd/c"},
		{"ab,ab", []int64{0, 0, 0, 1, 1, 0}, "abacbabc"},
		// Lines from a spot to itself, on a boundary of a single spot.
		{"a", []int64{0, 0, 0, 0, 0, 0}, "ab/ab"},
		{"a,b", []int64{0, 0, 0, 0, 0, 0}, "ac,b/ac"},
		{"a,b", []int64{0, 0, 0, 0, 0, 2}, "ac/ac,b"},
		{"a,b", []int64{0, 1, 0, 1, 0, 0}, "bc,a/bc"},
		{"a,b", []int64{0, 1, 0, 1, 0, 1}, "bc/bc,a"},
		{"a,b,c,d", []int64{0, 1, 0, 1, 0, 0}, "be,a,c,d/be"},
		{"a,b,c,d", []int64{0, 1, 0, 1, 0, 5}, "be,d/be,a,c"},
		{"a,b,c,d", []int64{0, 1, 0, 1, 0, 8}, "be,a,c/be,d"},
		{"a,b,c,d", []int64{0, 1, 0, 1, 0, 13}, "be/be,a,c,d"},
		// Lines from a spot to itself, on a longer boundary.
		{"ab", []int64{0, 0, 0, 0, 0, 0}, "abac/ac"},
		{"ab", []int64{0, 0, 1, 0, 1, 0}, "babc/bc"},
		{"abcb", []int64{0, 0, 2, 0, 2, 0}, "cbabcd/cd"},
		{"abcb,d,e", []int64{0, 0, 0, 0, 0, 4}, "abcbaf,d/af,e"},
		// Lines between two places of one boundary.
		{"ab", []int64{0, 0, 0, 0, 1, 0}, "bac/abc"},
		{"abcb", []int64{0, 0, 0, 0, 2, 0}, "cbad/abcd"},
		{"abcb", []int64{0, 0, 1, 0, 2, 0}, "cbabd/bcd"},
		{"abcb", []int64{0, 0, 0, 0, 3, 0}, "bad/abcbd"},
		{"acbc,d", []int64{0, 0, 1, 0, 2, 0}, "bcace,d/cbe"},
		{"acbc,d", []int64{0, 0, 1, 0, 2, 2}, "bcace/cbe,d"},
		// The new region stands at the end, the outer one where the region was.
		{"a/b/c", []int64{0, 0, 0, 0, 0, 0}, "ad/b/c/ad"},
		{"a/b,c//d", []int64{1, 0, 0, 0, 0, 2}, "a/be//d/be,c"},
		{"//a", []int64{2, 0, 0, 0, 0, 0}, "//ab/ab"},
		// A spot that stands in two regions has its last life taken in one of them.
		{"ab/ba", []int64{0, 0, 0, 0, 1, 0}, "bac/ba/abc"},
	}
	for _, test := range tests {
		after, code := impl.MakeSproutMove(sprouts(t, test.text), test.move)
		wantSprouts(t, "MakeSproutMove of "+test.text, after, code, test.want)
	}
}

// The limits of the searches do not hold for a single move; MaxSprouts spots are too many for it.
func TestMakeSproutMoveBeyondLimits(t *testing.T) {
	start, _ := impl.StartOf(6)
	after, code := impl.MakeSproutMove(start, []int64{0, 5, 0, 5, 0, 31})
	wantSprouts(t, "MakeSproutMove of six spots", after, code, "fg/fg,a,b,c,d,e")
	many := sprouts(t, aloneOnes('a', 's'))
	after, code = impl.MakeSproutMove(many, []int64{0, 18, 0, 18, 0, 1<<18 - 1})
	wantSprouts(t, "MakeSproutMove of 19 spots", after, code, "st/st,"+aloneOnes('a', 'r'))
	after, code = impl.MakeSproutMove(many, []int64{0, 0, 0, 18, 0, 0})
	wantSprouts(t, "MakeSproutMove of 19 spots", after, code, aloneOnes('b', 'r')+",atst")
	for _, cut := range []int64{1 << 18, 1<<19 - 1, 1 << 19, 1 << 62, greatestInt} {
		after, code = impl.MakeSproutMove(many, []int64{0, 18, 0, 18, 0, cut})
		wantNoSprouts(t, "MakeSproutMove of 19 spots", after, code, impl.ErrState)
	}
	full := sprouts(t, aloneOnes('a', 't'))
	for _, move := range [][]int64{{0, 0, 0, 0, 0, 0}, {0, 0, 0, 1, 0, 0}, {0, 1, 0, 0, 0, 0}, {0, 19, 0, 19, 0, 1}} {
		after, code = impl.MakeSproutMove(full, move)
		wantNoSprouts(t, "MakeSproutMove of 20 spots", after, code, impl.ErrState)
	}
	// Thirty boundaries are the most that there can be.
	var words []string
	for k := byte(0); k < 20; k += 2 {
		first, second := string(rune('a'+k)), string(rune('b'+k))
		words = append(words, first+second, first+second, first+second)
	}
	after, code = impl.MakeSproutMove(sprouts(t, strings.Join(words, ",")), []int64{0, 0, 0, 29, 0, 0})
	wantNoSprouts(t, "MakeSproutMove of 30 boundaries", after, code, impl.ErrState)
}

// ErrRange comes before ErrState: what is wrong with the rest of a move, or with the spots, is found
// only if there are such places.
func TestMakeSproutMoveRange(t *testing.T) {
	bad := [][]int64{nil, {}, {0}, {0, 0, 0, 0, 0}, {0, 0, 0, 0, 0, 0, 0}, {0, 0, 0, 1, 0, 0, 0}, repeat(0, 12)}
	for _, off := range []int64{-1, 1 << 32, -1 << 32, leastInt, greatestInt} {
		bad = append(bad, []int64{off, 0, 0, 0, 0, 0}, []int64{0, off, 0, 0, 0, 0}, []int64{0, 0, off, 0, 0, 0},
			[]int64{0, 0, 0, off, 0, 0}, []int64{0, 0, 0, 0, off, 0}, []int64{0, 1, 0, 0, off, -1})
	}
	for _, text := range []string{"a,b", "ab,c/ab", "aaa,bbb", aloneOnes('a', 't')} {
		for _, move := range bad {
			after, code := impl.MakeSproutMove(sprouts(t, text), move)
			wantNoSprouts(t, "MakeSproutMove of "+text, after, code, impl.ErrRange)
		}
	}
	beyond := [][]int64{
		{2, 0, 0, 0, 0, 0}, {3, 0, 0, 0, 0, 0}, // one region, or one without boundaries, less
		{0, 2, 0, 2, 0, 0}, {0, 0, 0, 2, 0, 0}, {1, 1, 0, 1, 0, 0}, {1, 0, 0, 1, 0, 0},
		{0, 0, 2, 1, 0, 0}, {0, 0, 0, 0, 2, 0}, {0, 0, 0, 1, 1, 0}, {0, 1, 1, 1, 1, 0}, {1, 0, 3, 0, 3, 0},
		{0, 1, 0, 0, 2, 0}, {0, 1, 0, 0, 2, -1}, {2, 0, 0, 0, 0, 9}, {0, 0, 2, 0, 1, 0},
	}
	for _, move := range beyond {
		after, code := impl.MakeSproutMove(sprouts(t, "ab,c/abd/"), move)
		wantNoSprouts(t, "MakeSproutMove", after, code, impl.ErrRange)
	}
}

func TestMakeSproutMoveState(t *testing.T) {
	tests := map[string][][]int64{
		// The boundaries the wrong way round, or something cut off by a line between two boundaries.
		"a,b,c": {{0, 1, 0, 0, 0, 0}, {0, 2, 0, 1, 0, 0}, {0, 0, 0, 1, 0, 1}, {0, 0, 0, 1, 0, 4}, {0, 0, 0, 1, 0, -1}, {0, 0, 0, 1, 0, greatestInt}, {0, 0, 0, 1, 0, leastInt},
			// The boundary itself, none at all, or less than none cut off by a line within one.
			{0, 0, 0, 0, 0, 1}, {0, 0, 0, 0, 0, 7}, {0, 1, 0, 1, 0, 2}, {0, 1, 0, 1, 0, 3}, {0, 2, 0, 2, 0, 4},
			{0, 0, 0, 0, 0, 8}, {0, 0, 0, 0, 0, 14}, {0, 1, 0, 1, 0, 8}, {0, 0, 0, 0, 0, 1 << 32}, {0, 0, 0, 0, 0, 1 << 62}, {0, 0, 0, 0, 0, greatestInt - 1},
			{0, 0, 0, 0, 0, -1}, {0, 0, 0, 0, 0, -2}, {0, 0, 0, 0, 0, leastInt}},
		// The places the wrong way round.
		"abcb": {{0, 0, 1, 0, 0, 0}, {0, 0, 2, 0, 0, 0}, {0, 0, 3, 0, 2, 0},
			// A spot with one life, from a place to itself or to another one.
			{0, 0, 1, 0, 1, 0}, {0, 0, 1, 0, 3, 0}, {0, 0, 3, 0, 3, 0}},
		"ab,ab/c": {{0, 0, 0, 1, 0, 0}, {0, 0, 1, 1, 1, 0}, {0, 0, 0, 0, 0, 0}},
		// Spots without lives.
		"aab,abd,c/eeed": {{0, 0, 0, 0, 2, 0}, {0, 0, 2, 1, 1, 0}, {0, 0, 0, 1, 1, 0}, {0, 0, 0, 2, 0, 0}, {0, 0, 0, 0, 1, 0}, {1, 0, 0, 0, 3, 0}},
	}
	for text, moves := range tests {
		for _, move := range moves {
			after, code := impl.MakeSproutMove(sprouts(t, text), move)
			wantNoSprouts(t, "MakeSproutMove of "+text, after, code, impl.ErrState)
		}
	}
}

// pencil draws lines on texts: a second way to the positions behind moves, and to what is a move.
type pencil string

func (p pencil) lives(letter byte) int {
	for _, region := range strings.Split(string(p), "/") {
		if slices.Contains(strings.Split(region, ","), string(rune(letter))) {
			return 3
		}
	}
	return 3 - strings.Count(string(p), string(rune(letter)))
}

func (p pencil) fresh() byte {
	letter := byte('a')
	for strings.Contains(string(p), string(rune(letter))) {
		letter++
	}
	return letter
}

// moves returns all moves, by trying out all numbers.
func (p pencil) moves() [][]int64 {
	lives := map[byte]int{}
	for letter := byte('a'); letter <= 't'; letter++ {
		lives[letter] = p.lives(letter)
	}
	var moves [][]int64
	for r, region := range strings.Split(string(p), "/") {
		words := strings.Split(region, ",")
		for b, first := range words {
			for i := range len(first) {
				for c, second := range words {
					for j := range len(second) {
						x, y := first[i], second[j]
						if lives[x] < 1 || lives[y] < 1 || x == y && lives[x] < 2 {
							continue
						}
						for cut := range 1 << len(words) {
							if b < c && cut == 0 || b == c && i <= j && cut&(1<<b) == 0 {
								moves = append(moves, []int64{int64(r), int64(b), int64(i), int64(c), int64(j), int64(cut)})
							}
						}
					}
				}
			}
		}
	}
	return moves
}

func (p pencil) walk(word string, i int) string {
	if len(word) == 1 {
		return word
	}
	return (word + word)[i : i+len(word)+1]
}

// draw returns the text behind a move.
func (p pencil) draw(move []int64) string {
	r, b, i, c, j, cut := move[0], move[1], int(move[2]), move[3], int(move[4]), move[5]
	fresh := string(rune(p.fresh()))
	regions := strings.Split(string(p), "/")
	words := strings.Split(regions[r], ",")
	var stay, leave []string
	for k, word := range words {
		switch {
		case int64(k) == b || int64(k) == c:
		case cut&(1<<k) != 0:
			leave = append(leave, word)
		default:
			stay = append(stay, word)
		}
	}
	if b != c {
		regions[r] = strings.Join(append(stay, p.walk(words[b], i)+fresh+p.walk(words[c], j)+fresh), ",")
		return strings.Join(regions, "/")
	}
	outer := words[b] + fresh
	if len(words[b]) > 1 {
		outer = words[b][j:] + words[b][:i+1] + fresh
	}
	inner := words[b][i:j+1] + fresh
	regions[r] = strings.Join(append([]string{outer}, stay...), ",")
	return strings.Join(append(regions, strings.Join(append([]string{inner}, leave...), ",")), "/")
}

// somePositions returns positions of many kinds, with at most so many lives together, and few
// boundaries in a region.
func somePositions(t *testing.T, count int, lives int64) []impl.Sprouts {
	t.Helper()
	var d dice = 2
	var positions []impl.Sprouts
	for len(positions) < count {
		x := randomPosition(&d)
		sum, code := impl.LivesOf(x)
		if code != impl.ErrNone {
			t.Fatalf("%v is no position: code %d", x, code)
		}
		if sum <= lives && !slices.ContainsFunc(x.Regions, func(region [][]int64) bool { return len(region) > 5 }) {
			positions = append(positions, x)
		}
	}
	return positions
}

// randomPosition deals out the places of some spots to boundaries, and these to regions.
func randomPosition(d *dice) impl.Sprouts {
	x := impl.Sprouts{Regions: make([][][]int64, d.below(3)+1)}
	add := func(boundary []int64) {
		r := d.below(int64(len(x.Regions)))
		x.Regions[r] = append(x.Regions[r], boundary)
	}
	var places []int64
	for spots := d.below(8) + 1; x.Spots < spots; x.Spots++ {
		degree := d.below(4)
		if degree == 0 {
			add([]int64{x.Spots})
		}
		places = append(places, repeat(x.Spots, int(degree))...)
	}
	if len(places) == 1 {
		places = append(places, places[0])
	}
	for k := range places {
		other := d.below(int64(k) + 1)
		places[k], places[other] = places[other], places[k]
	}
	for len(places) > 0 {
		size := min(2+int(d.below(5)), len(places))
		if size+1 == len(places) {
			size++
		}
		add(slices.Clone(places[:size]))
		places = places[size:]
	}
	return x
}

// playedPositions returns starts and positions to which moves lead from them.
func playedPositions(t *testing.T) []impl.Sprouts {
	t.Helper()
	var d dice = 3
	var positions []impl.Sprouts
	for n := int64(1); n <= 4; n++ {
		for range 8 {
			x, code := impl.StartOf(n)
			for code == impl.ErrNone {
				positions = append(positions, x)
				moves := pencil(textOf(t, x)).moves()
				if len(moves) == 0 {
					break
				}
				x, code = impl.MakeSproutMove(x, moves[d.below(int64(len(moves)))])
			}
			if code != impl.ErrNone {
				t.Fatalf("a play from %d spots ends with code %d", n, code)
			}
		}
	}
	return positions
}

func TestSproutMovesAgainstTexts(t *testing.T) {
	for _, x := range append(somePositions(t, 400, 60), playedPositions(t)...) {
		text := textOf(t, x)
		want := pencil(text).moves()
		for _, move := range want {
			after, code := impl.MakeSproutMove(x, move)
			wantSprouts(t, "MakeSproutMove of "+text, after, code, pencil(text).draw(move))
		}
		moves, code := impl.SproutMoves(x)
		if lives, _ := impl.LivesOf(x); lives > impl.MaxLives || x.Spots+lives > impl.MaxSprouts {
			wantNoList(t, "SproutMoves of "+text, moves, code, impl.ErrLimit)
		} else if code != impl.ErrNone || len(moves)+len(want) > 0 && !reflect.DeepEqual(moves, want) {
			t.Errorf("SproutMoves(%q) = %v, code %d; want %v", text, moves, code, want)
		}
	}
}

// Numbers near a region are a move for MakeSproutMove exactly if they are one of the texts.
func TestMovesAreNoOthers(t *testing.T) {
	for _, x := range somePositions(t, 60, 12) {
		text := textOf(t, x)
		moves := pencil(text).moves()
		for r, region := range x.Regions {
			for code := range int64(len(region) * len(region) * 16 * 40) {
				b, c := code%int64(len(region)), code/int64(len(region))%int64(len(region))
				rest := code / int64(len(region)*len(region))
				move := []int64{int64(r), b, rest % 4, c, rest / 4 % 4, rest/16 - 3}
				_, got := impl.MakeSproutMove(x, move)
				want := int64(impl.ErrState)
				if move[2] >= int64(len(region[b])) || move[4] >= int64(len(region[c])) {
					want = impl.ErrRange
				} else if slices.ContainsFunc(moves, func(other []int64) bool { return slices.Equal(move, other) }) {
					want = impl.ErrNone
				}
				if got != want {
					t.Errorf("MakeSproutMove(%q, %v): code %d, want %d", text, move, got, want)
				}
			}
		}
	}
}

// outlook is what the plays of a position come to.
type outlook struct{ grundy, least, most int64 }

// outlookOf plays all plays out on the texts, without leaving out anything.
func outlookOf(p pencil, known map[pencil]outlook) outlook {
	if found, ok := known[p]; ok {
		return found
	}
	var grundy, least, most []int64
	for _, move := range p.moves() {
		next := outlookOf(pencil(p.draw(move)), known)
		grundy = append(grundy, next.grundy)
		least = append(least, next.least+1)
		most = append(most, next.most+1)
	}
	found := outlook{}
	if len(grundy) > 0 {
		found = outlook{0, slices.Min(least), slices.Max(most)}
		for slices.Contains(grundy, found.grundy) {
			found.grundy++
		}
	}
	known[p] = found
	return found
}

// positionsToSearch returns positions that are within the limits, and few enough to play all out.
func positionsToSearch(t *testing.T) []impl.Sprouts {
	t.Helper()
	positions := somePositions(t, 500, 5)
	for _, text := range []string{
		"a", "a,b", "/a,b/", "ab/ba/ca", "acbc", "ac/ac,b", "aa,bb,cc", "aabb,cc", "aabbcc", "abcabc", "abc,abc", "ab,bc,ca", "abc/abc", "abcd/dcba",
		// Spots whose neighbours have no lives are like others, but not like spots alone.
		"abbb", "abbb,c", "abbb,cddd", "abbba", "abbbaccc", "abbba,c", "aabbb,cddd", "aabbbaccc,dd",
		"aaa", dead('a', 't'), "a," + dead('b', 'q'), "a,bbb,ccc,ddd",
	} {
		positions = append(positions, sprouts(t, text))
	}
	return positions
}

// SproutGrundy, SproutLengths and FirstWinningMove against plays of all kinds.
func TestSproutSearches(t *testing.T) {
	known := map[pencil]outlook{}
	for _, x := range positionsToSearch(t) {
		text := textOf(t, x)
		want := outlookOf(pencil(text), known)
		grundy, code := impl.SproutGrundy(x)
		wantValue(t, "SproutGrundy of "+text, grundy, code, want.grundy, impl.ErrNone)
		least, most, code := impl.SproutLengths(x)
		wantValue(t, "SproutLengths of "+text, [2]int64{least, most}, code, [2]int64{want.least, want.most}, impl.ErrNone)
		moves := pencil(text).moves()
		first := slices.IndexFunc(moves, func(move []int64) bool { return outlookOf(pencil(pencil(text).draw(move)), known).grundy == 0 })
		move, code := impl.FirstWinningMove(x)
		if first < 0 {
			wantNoList(t, "FirstWinningMove of "+text, move, code, impl.ErrNotFound)
		} else {
			wantList(t, "FirstWinningMove of "+text, move, code, moves[first])
		}
	}
}

func TestSproutsOfKnownOutlook(t *testing.T) {
	tests := map[string]outlook{
		"a":                                {0, 2, 2},
		"a,b":                              {0, 4, 5},
		"a,b,ccc,ddd,eee,fff,ggg,hhh":      {0, 4, 5}, // boundaries without lives change nothing
		"a,b,ccc/ddd//eee,fff/ggg,hhh,iii": {0, 4, 5},
		"aa,bb":                            {1, 1, 1},
		"aabb/ccdd":                        {0, 2, 2}, // the nim sum of two such regions
		"aa/bb/cc":                         {0, 0, 0},
		"aa":                               {0, 0, 0},
		"aaa":                              {0, 0, 0},
		"//aaa":                            {0, 0, 0},
		dead('a', 't'):                     {0, 0, 0},
		"aa/" + dead('b', 's'):             {0, 0, 0},
	}
	for text, want := range tests {
		x := sprouts(t, text)
		grundy, code := impl.SproutGrundy(x)
		wantValue(t, "SproutGrundy of "+text, grundy, code, want.grundy, impl.ErrNone)
		least, most, code := impl.SproutLengths(x)
		wantValue(t, "SproutLengths of "+text, [2]int64{least, most}, code, [2]int64{want.least, want.most}, impl.ErrNone)
	}
}

func TestFirstWinningMove(t *testing.T) {
	tests := map[string][]int64{
		"aa,bb":        {0, 0, 0, 1, 0, 0},
		"//aa,bb":      {2, 0, 0, 1, 0, 0},
		"aaa,bb,cc/dd": {0, 1, 0, 2, 0, 0},
		"a":            nil,
		"a,b":          nil,
		"aabb/ccdd":    nil,
		"aa/bb":        nil,
		"aaa":          nil,
	}
	for text, want := range tests {
		move, code := impl.FirstWinningMove(sprouts(t, text))
		if want == nil {
			wantNoList(t, "FirstWinningMove of "+text, move, code, impl.ErrNotFound)
		} else {
			wantList(t, "FirstWinningMove of "+text, move, code, want)
		}
	}
}

// Positions in which as many moves as possible have to be tried out.
func TestSproutSearchOfManyMoves(t *testing.T) {
	for _, text := range []string{
		"abcdefabcdef," + deadOnes('g', 'm'),
		"ag,ab,bfe,dce,dc,fg/ghhhiiijjjkkklllmmmnnn",
		"fc,fa,ec,ag,dg,bb,eg,dh/hhiiijjjkkklllmmmnnn",
		"eg,bcaf,dg,eb,ad,cf/ghhhiiijjjkkklllmmmnnn",
	} {
		x := sprouts(t, text)
		grundy, code := impl.SproutGrundy(x)
		if code != impl.ErrNone {
			t.Errorf("SproutGrundy(%q): code %d", text, code)
		}
		move, code := impl.FirstWinningMove(x)
		if grundy == 0 {
			wantNoList(t, "FirstWinningMove of "+text, move, code, impl.ErrNotFound)
			continue
		}
		after, code := impl.MakeSproutMove(x, move)
		if code != impl.ErrNone {
			t.Errorf("MakeSproutMove(%q, %v): code %d", text, move, code)
		}
		grundy, code = impl.SproutGrundy(after)
		wantValue(t, "SproutGrundy behind the winning move", grundy, code, 0, impl.ErrNone)
	}
}

func TestPlaySprouts(t *testing.T) {
	for _, x := range positionsToSearch(t) {
		start := pencil(textOf(t, x))
		for _, k := range []int64{0, 1, 2, 3, 4, 5, 7, 10, 60, 64, 99, 511, 720, 999, 1000} {
			end, want := start, int64(0)
			for moves := end.moves(); len(moves) > 0; moves = end.moves() {
				end = pencil(end.draw(moves[k%int64(len(moves))]))
				want++
			}
			got, made, code := impl.PlaySprouts(x, k)
			wantSprouts(t, "PlaySprouts of "+string(start), got, code, string(end))
			wantValue(t, "moves of PlaySprouts of "+string(start), made, code, want, impl.ErrNone)
		}
	}
	one, _ := impl.StartOf(1)
	end, made, code := impl.PlaySprouts(one, 0)
	wantSprouts(t, "PlaySprouts of one spot", end, code, "bac/ab/abc")
	wantValue(t, "moves of one spot", made, code, 2, impl.ErrNone)
}

// ErrRange comes before ErrLimit.
func TestPlaySproutsRange(t *testing.T) {
	for _, text := range []string{"a", "a,b", "a,b,c", aloneOnes('a', 't'), deadOnes('a', 'i'), "aaa"} {
		for _, k := range []int64{-1, 1001, leastInt, greatestInt, 1 << 32} {
			end, made, code := impl.PlaySprouts(sprouts(t, text), k)
			wantNoSprouts(t, "PlaySprouts", end, code, impl.ErrRange)
			wantValue(t, "moves of PlaySprouts", made, code, 0, impl.ErrRange)
		}
	}
}

// wantSearchCode checks the codes of all functions that have limits, and zero values beside errors.
func wantSearchCode(t *testing.T, text string, want int64) {
	t.Helper()
	x := sprouts(t, text)
	moves, code := impl.SproutMoves(x)
	grundy, grundyCode := impl.SproutGrundy(x)
	least, most, lengthsCode := impl.SproutLengths(x)
	move, moveCode := impl.FirstWinningMove(x)
	end, made, playCode := impl.PlaySprouts(x, 1000)
	if want == impl.ErrNone && moveCode == impl.ErrNotFound && grundy == 0 {
		moveCode = impl.ErrNone
	}
	codes := []int64{code, grundyCode, lengthsCode, moveCode, playCode}
	if !slices.Equal(codes, repeat(want, 5)) {
		t.Errorf("%q: codes %v, want %d", text, codes, want)
	}
	if want != impl.ErrNone && (len(moves) > 0 || grundy != 0 || least != 0 || most != 0 || len(move) > 0 || made != 0 || end.Spots != 0 || len(end.Regions) > 0) {
		t.Errorf("%q: results beside errors: %v %d %d %d %v %v %d", text, moves, grundy, least, most, move, end, made)
	}
}

// The positions at a limit, which the searches accept, and those just beyond it.
func TestSproutSearchLimits(t *testing.T) {
	within := []string{
		"a,b", "a,bbcc,dd", "aabb,ccdd,eeff", // exactly MaxLives lives
		"a,b," + dead('c', 'n'), "aa/" + dead('b', 's'), // exactly MaxSprouts spots and lives
		dead('a', 't'),                                                                   // exactly MaxSprouts spots
		"a,b," + deadOnes('c', 'h'), "/" + deadOnes('a', 'h') + "/" + deadOnes('i', 'p'), // exactly MaxBoundaries boundaries
	}
	for _, text := range within {
		wantSearchCode(t, text, impl.ErrNone)
	}
	beyond := []string{
		"a,b,cc", "a,b,c", "aabb,ccdd,eeff/gg", aloneOnes('a', 'f'), aloneOnes('a', 't'),
		"a,b," + dead('c', 'o'), "aa/" + dead('b', 't'), "aa,bb/" + dead('c', 's'),
		"a,b," + deadOnes('c', 'i'), deadOnes('a', 'i'), "aa//" + deadOnes('b', 'j'),
	}
	for _, text := range beyond {
		wantSearchCode(t, text, impl.ErrLimit)
	}
}

// Promise 2, its first part.
func TestEachSproutMoveTakesOneLife(t *testing.T) {
	for _, x := range append(somePositions(t, 200, 60), playedPositions(t)...) {
		lives, _ := impl.LivesOf(x)
		for _, move := range pencil(textOf(t, x)).moves() {
			after, code := impl.MakeSproutMove(x, move)
			if code != impl.ErrNone || after.Spots != x.Spots+1 {
				t.Fatalf("MakeSproutMove(%v, %v) = %v, code %d", x, move, after, code)
			}
			left, code := impl.LivesOf(after)
			wantValue(t, "LivesOf "+textOf(t, after), left, code, lives-1, impl.ErrNone)
		}
	}
}

// Promise 2, its second part; and where no move wins, each one leads to another value.
func TestWinningSproutMovesLeadToZero(t *testing.T) {
	for _, x := range append(positionsToSearch(t), somePositions(t, 40, 6)...) {
		text := textOf(t, x)
		grundy, _ := impl.SproutGrundy(x)
		move, code := impl.FirstWinningMove(x)
		if (grundy != 0) != (code == impl.ErrNone) || (grundy == 0) != (code == impl.ErrNotFound) {
			t.Errorf("%q: value %d, FirstWinningMove has code %d", text, grundy, code)
		}
		moves, _ := impl.SproutMoves(x)
		for _, other := range moves {
			after, _ := impl.MakeSproutMove(x, other)
			value, code := impl.SproutGrundy(after)
			if code != impl.ErrNone || value == grundy {
				t.Errorf("%q: value %d, behind %v value %d, code %d", text, grundy, other, value, code)
			}
			if slices.Equal(move, other) {
				wantValue(t, "value behind the winning move of "+text, value, code, 0, impl.ErrNone)
				break
			}
			if value == 0 {
				t.Errorf("%q: %v wins before %v", text, other, move)
			}
		}
	}
}

// Promise 12, with what it rests on: each move of a play takes one life, till nothing can be joined.
func TestPlaysHaveMovesWithinLengths(t *testing.T) {
	for _, x := range append(positionsToSearch(t), somePositions(t, 40, 6)...) {
		text := textOf(t, x)
		least, most, code := impl.SproutLengths(x)
		if code != impl.ErrNone {
			t.Fatalf("SproutLengths(%q): code %d", text, code)
		}
		lives, _ := impl.LivesOf(x)
		for k := int64(0); k <= 1000; k += 37 {
			end, made, code := impl.PlaySprouts(x, k)
			if code != impl.ErrNone || made < least || made > most || end.Spots != x.Spots+made {
				t.Errorf("PlaySprouts(%q, %d) = %v, %d, code %d; lengths %d and %d", text, k, end, made, code, least, most)
			}
			left, code := impl.LivesOf(end)
			wantValue(t, "lives at the end", left, code, lives-made, impl.ErrNone)
			if moves := pencil(textOf(t, end)).moves(); len(moves) > 0 {
				t.Errorf("PlaySprouts(%q, %d) is not over: %v", text, k, end)
			}
		}
	}
}

// Of two spots the plays have both lengths that there are.
func TestPlaysOfTwoSpots(t *testing.T) {
	x, _ := impl.StartOf(2)
	var lengths []int64
	for k := range int64(1001) {
		_, made, code := impl.PlaySprouts(x, k)
		if code != impl.ErrNone {
			t.Fatalf("PlaySprouts of two spots, %d: code %d", k, code)
		}
		if !slices.Contains(lengths, made) {
			lengths = append(lengths, made)
		}
	}
	slices.Sort(lengths)
	wantList(t, "lengths of plays", lengths, impl.ErrNone, []int64{4, 5})
}

func TestSproutsText(t *testing.T) {
	tests := map[string]impl.Sprouts{
		"a":            position(1, region([]int64{0})),
		"/a":           position(1, nil, region([]int64{0})),
		"a//":          position(1, region([]int64{0}), region(), nil),
		"b,a":          position(2, region([]int64{1}, []int64{0})),
		"ac/ac,b":      position(3, region([]int64{0, 2}), region([]int64{0, 2}, []int64{1})),
		"cab,d//ac,bb": position(4, region([]int64{2, 0, 1}, []int64{3}), nil, region([]int64{0, 2}, []int64{1, 1})),
	}
	for want, x := range tests {
		text, code := impl.SproutsText(x)
		wantValue(t, "SproutsText", text, code, want, impl.ErrNone)
		back, code := impl.ParseSprouts(want)
		if code != impl.ErrNone || back.Spots != x.Spots || len(back.Regions) != len(x.Regions) {
			t.Fatalf("ParseSprouts(%q) = %v, code %d; want %v", want, back, code, x)
		}
		for r := range x.Regions {
			if len(back.Regions[r])+len(x.Regions[r]) > 0 && !reflect.DeepEqual(back.Regions[r], x.Regions[r]) {
				t.Errorf("ParseSprouts(%q) = %v; want %v", want, back, x)
			}
		}
	}
}

func TestSproutsComeBackFromTheirTexts(t *testing.T) {
	for _, x := range append(somePositions(t, 300, 60), playedPositions(t)...) {
		back, code := impl.ParseSprouts(textOf(t, x))
		if code != impl.ErrNone || back.Spots != x.Spots || len(back.Regions) != len(x.Regions) {
			t.Fatalf("%v comes back as %v, code %d", x, back, code)
		}
		for r := range x.Regions {
			if len(back.Regions[r])+len(x.Regions[r]) > 0 && !reflect.DeepEqual(back.Regions[r], x.Regions[r]) {
				t.Errorf("%v comes back as %v", x, back)
			}
		}
	}
	for _, text := range []string{aloneOnes('a', 't'), dead('a', 't'), deadOnes('a', 't'), "tsrqponmlkjihgfedcba", strings.Repeat("/", 500) + "a" + strings.Repeat("/", 500)} {
		wantValue(t, "SproutsText", textOf(t, sprouts(t, text)), impl.ErrNone, text, impl.ErrNone)
	}
}

func TestParseSproutsSyntax(t *testing.T) {
	for _, bad := range []string{
		"", "/", "//", ",", ",,", "/,", "a,", ",a", "a,,b", "a,/b", "a/,b", "/a,",
		"b", "ac", "bb", "a,c", "aaaa", "aa,aa", "aa/aa", "a,ab", "ab,a", "ab/a", "a,a", "a/a",
		"A", "aB", "a b", " a", "a ", "a\n", "a,b\n", "a\x00", "0", "a1", "1a", "-", "a.b", "a;b", "a|b", "`", "a`", "{", "a{", "é", "aé", "\xff", "a\xff",
		"u", aloneOnes('a', 'u'), dead('a', 'u'), "abcdefghijklmnopqrstu", aloneOnes('b', 't'), strings.Repeat("a", 1000), strings.Repeat("a,", 1000), strings.Repeat("/", 1000),
	} {
		x, code := impl.ParseSprouts(bad)
		wantNoSprouts(t, "ParseSprouts "+bad, x, code, impl.ErrSyntax)
	}
}

// roomySprouts returns a copy of a position with spare capacity behind all its lists, and a
// function that reports whether all their memory is as it was.
func roomySprouts(x impl.Sprouts) (impl.Sprouts, func() bool) {
	var rows, rowsBefore [][]int64
	var regions, regionsBefore [][][]int64
	copied := impl.Sprouts{Spots: x.Spots}
	for _, region := range x.Regions {
		var boundaries [][]int64
		for _, boundary := range region {
			list, whole := roomy(boundary)
			boundaries = append(boundaries, list)
			rows = append(rows, whole)
			rowsBefore = append(rowsBefore, slices.Clone(whole))
		}
		whole := append(boundaries, []int64{77}, []int64{77})
		copied.Regions = append(copied.Regions, whole[:len(boundaries)])
		regions = append(regions, whole)
		regionsBefore = append(regionsBefore, slices.Clone(whole))
	}
	all := append(copied.Regions, region([]int64{77}), region([]int64{77}))
	copied.Regions = all[:len(x.Regions)]
	allBefore := slices.Clone(all)
	return copied, func() bool {
		return reflect.DeepEqual(rows, rowsBefore) && reflect.DeepEqual(regions, regionsBefore) && reflect.DeepEqual(all, allBefore)
	}
}

// spoilSprouts writes over all lists of a position and over all the memory behind them.
func spoilSprouts(x impl.Sprouts) {
	all := x.Regions[:cap(x.Regions)]
	for r, region := range all {
		for b, boundary := range region[:cap(region)] {
			spoil(boundary)
			region[:cap(region)][b] = []int64{-5}
		}
		all[r] = nil
	}
}

func TestSproutArgumentsStayAsTheyAre(t *testing.T) {
	for _, text := range []string{"a,b", "acbc/", "/aab,bdd/dcc", "ab,ab/cd,cd", "aabbcc,ddd,eee"} {
		x, same := roomySprouts(sprouts(t, text))
		impl.IsSprouts(x)
		spoil(first(impl.DegreesOf(x)))
		impl.LivesOf(x)
		impl.SproutGrundy(x)
		impl.SproutLengths(x)
		spoil(first(impl.FirstWinningMove(x)))
		impl.SproutsText(x)
		for _, move := range first(impl.SproutMoves(x)) {
			numbers, whole := roomy(move)
			spoilSprouts(first(impl.MakeSproutMove(x, numbers)))
			if !slices.Equal(whole, append(move, 77, 77, 77)) {
				t.Errorf("%q: the move %v has become %v", text, move, whole)
			}
		}
		for k := range int64(5) {
			end, _, _ := impl.PlaySprouts(x, k)
			spoilSprouts(end)
		}
		if !same() {
			t.Errorf("%q has become %v", text, x)
		}
	}
}

// A play without moves ends with a copy of the position.
func TestPlayWithoutMovesIsACopy(t *testing.T) {
	x, same := roomySprouts(sprouts(t, "aa,bbb/cc/"))
	end, made, code := impl.PlaySprouts(x, 3)
	wantSprouts(t, "PlaySprouts", end, code, "aa,bbb/cc/")
	wantValue(t, "moves of PlaySprouts", made, code, 0, impl.ErrNone)
	spoilSprouts(end)
	if !same() {
		t.Errorf("the position has become %v", x)
	}
}

// A change of one list of a position that is returned leaves its other lists as they are.
func TestListsOfSproutsShareNoMemory(t *testing.T) {
	played := func(text string, k int64) func() impl.Sprouts {
		return func() impl.Sprouts {
			end, _, _ := impl.PlaySprouts(sprouts(t, text), k)
			return end
		}
	}
	moved := func(text string, move ...int64) func() impl.Sprouts {
		return func() impl.Sprouts { return first(impl.MakeSproutMove(sprouts(t, text), move)) }
	}
	results := map[string]func() impl.Sprouts{
		"StartOf":         func() impl.Sprouts { return first(impl.StartOf(4)) },
		"ParseSprouts":    func() impl.Sprouts { return sprouts(t, "ab,ab,cd/cd,e") },
		"a line between":  moved("ab,ab,cd,e,f/cd", 0, 0, 0, 1, 1, 0),
		"a line within":   moved("ab,ab,cd,e,f/cd", 0, 0, 0, 0, 1, 20),
		"a loop":          moved("a,b,c,d", 0, 1, 0, 1, 0, 5),
		"a play":          played("a,b", 2),
		"a play at once":  played("aa,bbb/cc,ddd", 0),
		"a play to parts": played("aabbcc,ddd,eee", 999),
	}
	for name, result := range results {
		want := textOf(t, result())
		for r, region := range result().Regions {
			for b := range region {
				got := result()
				kept := slices.Clone(got.Regions[r][b])
				spoil(append(got.Regions[r][b], 1, 2, 3))
				spoil(got.Regions[r][b])
				copy(got.Regions[r][b], kept)
				if textOf(t, got) != want {
					t.Errorf("%s: boundary %d of region %d shares memory: %v", name, b, r, got)
				}
			}
			got := result()
			_ = append(got.Regions[r], []int64{-5}, []int64{-5})
			if textOf(t, got) != want {
				t.Errorf("%s: region %d shares memory: %v", name, r, got)
			}
		}
	}
	x := sprouts(t, "a,b")
	moves := first(impl.SproutMoves(x))
	for k := range moves {
		want := first(impl.SproutMoves(x))
		got := first(impl.SproutMoves(x))
		spoil(append(got[k], 1, 2, 3))
		spoil(got[k])
		got[k] = want[k]
		if !reflect.DeepEqual(got, want) {
			t.Errorf("the move %d shares memory: %v", k, got)
		}
	}
}
