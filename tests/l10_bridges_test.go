package tests

import (
	"cmp"
	"fmt"
	"slices"
	"strconv"
	"strings"
	"sync"
	"testing"

	"loop.example/g01388/impl"
)

// web is a net drawn with digits: the number of its points, and the two points of each edge. It is a
// second way to what nets tell.
type web struct {
	points int
	edges  []string
}

// webOf reads a text such as "4 02 03 12 13 23", the net of 2.
func webOf(text string) web {
	return web{int(text[0] - '0'), strings.Fields(text[1:])}
}

func (w web) text() string {
	return strings.Join(append([]string{strconv.Itoa(w.points)}, w.edges...), " ")
}

func (w web) net() impl.Net {
	x := impl.Net{Points: int64(w.points)}
	for _, edge := range w.edges {
		x.Edges = append(x.Edges, []int64{int64(edge[0] - '0'), int64(edge[1] - '0')})
	}
	return x
}

// open returns the state with open edges only.
func (w web) open() string { return strings.Repeat(".", len(w.edges)) }

// painted paints each point with its own colour, and then, for each edge that is given, what has the
// colour of its second point with that of the first one. Points that are joined have one colour.
func (w web) painted(isGiven func(k int) bool) []byte {
	colours := []byte("01234567"[:w.points])
	for k, edge := range w.edges {
		if !isGiven(k) {
			continue
		}
		before, behind := colours[edge[1]-'0'], colours[edge[0]-'0']
		for point, colour := range colours {
			if colour == before {
				colours[point] = behind
			}
		}
	}
	return colours
}

// over returns 1 or 2 for the player who has won in a state, and 0 for none.
func (w web) over(state string) int64 {
	kept := w.painted(func(k int) bool { return state[k] == 's' })
	left := w.painted(func(k int) bool { return state[k] != 'c' })
	switch {
	case kept[0] == kept[1]:
		return 1
	case left[0] != left[1]:
		return 2
	}
	return 0
}

// pointsIn returns the points of a set.
func (w web) pointsIn(set int) []int64 {
	return slices.DeleteFunc(upTo(0, int64(w.points-1)), func(point int64) bool { return set>>point&1 == 0 })
}

// isDouble gives the edges between points to two sets in all ways.
func (w web) isDouble(points []int64) bool {
	inner := web{points: w.points}
	for _, edge := range w.edges {
		if slices.Contains(points, int64(edge[0]-'0')) && slices.Contains(points, int64(edge[1]-'0')) {
			inner.edges = append(inner.edges, edge)
		}
	}
	for set := range 1 << len(inner.edges) {
		first := inner.painted(func(k int) bool { return set>>k&1 == 1 })
		second := inner.painted(func(k int) bool { return set>>k&1 == 0 })
		if !slices.ContainsFunc(points, func(p int64) bool { return first[p] != first[points[0]] || second[p] != second[points[0]] }) {
			return true
		}
	}
	return false
}

// doubles returns all doubly joined sets with both terminals, in order.
func (w web) doubles() [][]int64 {
	var doubles [][]int64
	for set := 3; set < 1<<w.points; set += 4 {
		if points := w.pointsIn(set); w.isDouble(points) {
			doubles = append(doubles, points)
		}
	}
	slices.SortFunc(doubles, func(a, b []int64) int { return cmp.Or(cmp.Compare(len(a), len(b)), slices.Compare(a, b)) })
	return doubles
}

// webGame is a web with the winners that are known: those of states with the sign of the player who
// moves behind them.
type webGame struct {
	web
	known map[string]int64
}

func gameOn(w web) webGame { return webGame{w, map[string]int64{}} }

// marked returns the state behind the move of a player, 1 for short or 2 for cut.
func marked(state string, edge int, mover int64) string {
	return state[:edge] + "sc"[mover-1:mover] + state[edge+1:]
}

func (g webGame) winner(state string, mover int64) int64 {
	key := state + "sc"[mover-1:mover]
	if g.known[key] == 0 {
		winner := g.over(state)
		if winner == 0 {
			winner = 3 - mover
			if len(g.moves(state, mover)) > 0 {
				winner = mover
			}
		}
		g.known[key] = winner
	}
	return g.known[key]
}

func (g webGame) moves(state string, mover int64) []int64 {
	if g.over(state) != 0 {
		return nil
	}
	var moves []int64
	for k := range state {
		if state[k] == '.' && g.winner(marked(state, k, mover), 3-mover) == mover {
			moves = append(moves, int64(k))
		}
	}
	return moves
}

func (g webGame) play(state string, mover int64) string {
	for ; g.over(state) == 0; mover = 3 - mover {
		edge := strings.IndexByte(state, '.')
		if moves := g.moves(state, mover); len(moves) > 0 {
			edge = int(moves[0])
		}
		state = marked(state, edge, mover)
	}
	return state
}

// reply returns the first edge by which short wins behind a move of cut, and the code.
func (g webGame) reply(state string, edge int) (int64, int64) {
	if g.over(state) != 0 || state[edge] != '.' {
		return 0, impl.ErrState
	}
	if moves := g.moves(marked(state, edge, 2), 1); len(moves) > 0 {
		return moves[0], impl.ErrNone
	}
	return 0, impl.ErrNotFound
}

// owner returns the player who wins whoever moves first, and 0 if none does.
func (g webGame) owner() int64 {
	if first, second := g.winner(g.open(), 1), g.winner(g.open(), 2); first == second {
		return first
	}
	return 0
}

func edgeText(a, b int) string { return strconv.Itoa(a) + strconv.Itoa(b) }

// edgesOn returns all edges that so many points can have, in order.
func edgesOn(points int) []string {
	var edges []string
	for a := range points {
		for b := a + 1; b < points; b++ {
			edges = append(edges, edgeText(a, b))
		}
	}
	return edges
}

// websOn returns all webs with so many points, and at most so many edges.
func websOn(points, most int) []web {
	webs := []web{{points: points}}
	for k := 0; k < len(webs); k++ {
		if len(webs[k].edges) == most {
			continue
		}
		for _, edge := range edgesOn(points) {
			if len(webs[k].edges) == 0 || edge >= webs[k].edges[len(webs[k].edges)-1] {
				webs = append(webs, web{points, append(slices.Clone(webs[k].edges), edge)})
			}
		}
	}
	return webs
}

// smallWebs returns all webs with few points and edges.
func smallWebs() []web {
	return slices.Concat(websOn(2, 10), websOn(3, 5), websOn(4, 3), websOn(5, 2), websOn(8, 1))
}

// plainWebs returns webs that are known.
func plainWebs() []web {
	var webs []web
	for _, text := range []string{
		"2", "8", "2 01", "8 01", "3 02 12", "3 02 02 12", "3 01 02 12", "3 02 02 12 12", "3 01 02 02 12", "4 02 03 12 13", "4 02 03 12 13 23", "4 02 02 03 12 13 13", "4 23 23 23",
		"8 02 17 23 34 45 56 67", "8 02 03 04 05 06 07 12 13 14 15", "8 02 02 12 12", "5 01 02 02 12 12 34 34", "8 06 07 16 17 67", "8 07 07 17 17 23 23 24 24 34 34",
		"5 02 02 04 04 13 13 14 14 23 23", "5 02 03 04 12 13 14 23 24 34", "6 02 03 14 15 23 24 25 34 35 45", "4 01 02 02 03 03 12 13 13 23 23", "4 02 02 02 02 02 12 13 13 13 13",
		"2 01 01 01 01 01 01 01 01 01 01", "3 02 02 02 02 02 12 12 12 12 12", "4 02 02 02 02 02 13 13 13 13 13", "8 02 03 16 17 23 24 35 46 57 67", "6 02 03 12 14 23 24 25 34 35 45",
	} {
		webs = append(webs, webOf(text))
	}
	return webs
}

// drawnWebs returns webs of which many have all edges that are allowed, on few points or on many.
func drawnWebs(seed dice, count int) []web {
	var webs []web
	for k := range count {
		w := web{points: 3 + k%6}
		kinds := edgesOn(w.points)
		if k%3 > 0 { // a way through all points, so that the terminals are often joined
			before := 0
			for k := range w.points - 1 {
				point := (k+1)%(w.points-1) + 1 // 2, and those behind it, and at last 1
				w.edges = append(w.edges, edgeText(min(before, point), max(before, point)))
				before = point
			}
		}
		for most := 10 - int(seed.below(3)); len(w.edges) < most; {
			w.edges = append(w.edges, kinds[seed.below(int64(len(kinds)))])
		}
		slices.Sort(w.edges)
		webs = append(webs, w)
	}
	return webs
}

// manyGames returns many webs of all kinds, with what becomes known of them.
var manyGames = sync.OnceValue(func() []webGame {
	var games []webGame
	for _, w := range slices.Concat(smallWebs(), plainWebs(), drawnWebs(10, 120)) {
		games = append(games, gameOn(w))
	}
	return games
})

// statesOf returns all states of a web with few edges, and otherwise some: the open one, some of
// which few edges are open, some of which many are, and some that are full.
func (d *dice) statesOf(w web) []string {
	if len(w.edges) <= 4 {
		return smallTexts(len(w.edges), 1, ".sc")
	}
	states := []string{w.open()}
	for _, signs := range []string{".sc", ".sc", "..sc", "..sc", "..s", "..c", ".....sc", ".....sc", ".....sc", "s..c...", ".ssc", ".scc", "sc", "sc", "s", "c", ".s", ".c"} {
		state := ""
		for range w.edges {
			k := d.below(int64(len(signs)))
			state += signs[k : k+1]
		}
		states = append(states, state)
	}
	return states
}

func TestNetConstants(t *testing.T) {
	if impl.MaxKnots != 8 || impl.MaxWires != 10 {
		t.Errorf("MaxKnots, MaxWires are %d, %d", impl.MaxKnots, impl.MaxWires)
	}
}

// badNets returns some of each kind of what is not a net.
func badNets() map[string]impl.Net {
	net := func(points int64, edges ...[]int64) impl.Net { return impl.Net{Points: points, Edges: edges} }
	bad := map[string]impl.Net{"zero value": {}, "no list of edges": {Points: 1}, "11 edges": net(2, slices.Repeat([][]int64{{0, 1}}, 11)...), "many edges": net(8, slices.Repeat([][]int64{{0, 1}}, 1000)...), "11 different edges": {Points: 8}}
	for _, edge := range edgesOn(8)[:11] {
		x := bad["11 different edges"]
		x.Edges = append(x.Edges, []int64{int64(edge[0] - '0'), int64(edge[1] - '0')})
		bad["11 different edges"] = x
	}
	for _, points := range []int64{0, 1, 9, -1, -2, 10, 256 + 2, 1<<32 + 2, leastInt, leastInt + 2, greatestInt} {
		bad[fmt.Sprint(points, " points, no edges")] = net(points)
		bad[fmt.Sprint(points, " points")] = net(points, []int64{0, 1})
		bad[fmt.Sprint(points, " points, edges")] = net(points, []int64{0, 1}, []int64{0, 2}, []int64{1, 2})
	}
	for _, points := range []int64{2, 3, 5, 8} {
		for _, edge := range [][]int64{
			nil, {}, {0}, {1}, {0, 1, 2}, {0, 1, 1}, {0, 0, 1}, {0, 1, 0}, {0, 1, 2, 3}, repeat(0, 100), {0, 0}, {1, 1}, {1, 0}, {-1, 0}, {-1, 1}, {0, -1}, {-2, -1}, {-1, -1}, {points - 1, points - 1}, {points - 1, 0}, {points - 1, points - 2},
			{0, points}, {1, points}, {points - 1, points}, {points, points + 1}, {points, points}, {points, 0}, {0, 100}, {0, 256 + 1}, {256, 1}, {0, 1<<32 + 1}, {1 << 32, 1<<32 + 1}, {leastInt, 1}, {leastInt, greatestInt}, {0, greatestInt}, {greatestInt, leastInt}, {leastInt, leastInt + 1}, {greatestInt - 1, greatestInt},
		} {
			bad[fmt.Sprint("edge ", edge, " of ", points)] = net(points, edge)
			bad[fmt.Sprint("first edge ", edge, " of ", points)] = net(points, edge, []int64{0, 1})
			bad[fmt.Sprint("last edge ", edge, " of ", points)] = net(points, []int64{0, 1}, []int64{0, 1}, edge)
			bad[fmt.Sprint("middle edge ", edge, " of ", points)] = net(points, []int64{0, 1}, edge, []int64{points - 2, points - 1})
		}
	}
	for _, text := range []string{"3 02 01", "3 12 02", "3 12 01", "3 01 12 02", "3 02 02 01", "4 23 13", "4 02 03 13 12 23", "4 13 02 03 12 23", "8 01 02 03 04 05 06 07 67 57 56", "8 67 01"} {
		bad["edges not in order, "+text] = webOf(text).net()
	}
	return bad
}

func TestIsNet(t *testing.T) {
	for _, g := range manyGames() {
		if !impl.IsNet(g.net()) {
			t.Errorf("%s is a net", g.text())
		}
	}
	for points := int64(2); points <= 8; points++ {
		if !impl.IsNet(impl.Net{Points: points}) || !impl.IsNet(impl.Net{Points: points, Edges: [][]int64{}}) {
			t.Errorf("%d points without edges are a net", points)
		}
		for count := range 12 {
			x := impl.Net{Points: points, Edges: slices.Repeat([][]int64{{points - 2, points - 1}}, count)}
			if impl.IsNet(x) != (count <= 10) {
				t.Errorf("IsNet %v is not %v", x, count <= 10)
			}
		}
	}
	for name, bad := range badNets() {
		if impl.IsNet(bad) {
			t.Errorf("%s: %v is no net", name, bad)
		}
	}
}

// All lists of up to two edges with numbers of which some are no points.
func TestIsNetByEdges(t *testing.T) {
	for points := int64(2); points <= 3; points++ {
		var edges [][]int64
		for a := int64(-1); a <= points+1; a++ {
			for b := int64(-1); b <= points+1; b++ {
				edges = append(edges, []int64{a, b})
			}
		}
		known := map[string]bool{}
		for _, w := range websOn(int(points), 2) {
			known[fmt.Sprint(w.net())] = true
		}
		found := 0
		for _, one := range edges {
			for _, other := range edges {
				for _, list := range [][][]int64{{one}, {one, other}} {
					x := impl.Net{Points: points, Edges: list}
					if impl.IsNet(x) != known[fmt.Sprint(x)] {
						t.Errorf("IsNet %v is not %v", x, known[fmt.Sprint(x)])
					}
				}
				if known[fmt.Sprint(impl.Net{Points: points, Edges: [][]int64{one, other}})] {
					found++
				}
			}
		}
		if want := map[int64]int{2: 1, 3: 6}[points]; found != want {
			t.Errorf("%d lists of two edges of %d points; want %d", found, points, want)
		}
	}
}

// wantNothingOfState checks that the functions of a state return an error, and zero values beside it.
func wantNothingOfState(t *testing.T, what string, x impl.Net, state string, want int64) {
	t.Helper()
	what = fmt.Sprintf("%s, state %q", what, state)
	over, code := impl.StateOver(x, state)
	wantValue(t, what+": StateOver", over, code, 0, want)
	for _, short := range []bool{true, false} {
		winner, code := impl.StateWinner(x, state, short)
		wantValue(t, fmt.Sprint(what, ": StateWinner ", short), winner, code, 0, want)
		moves, code := impl.StateMoves(x, state, short)
		wantNoList(t, fmt.Sprint(what, ": StateMoves ", short), moves, code, want)
		play, code := impl.PlayState(x, state, short)
		wantValue(t, fmt.Sprint(what, ": PlayState ", short), play, code, "", want)
	}
	for _, edge := range []int64{0, 1, 9, -1, 10, leastInt, greatestInt} {
		wantNoReply(t, what, x, state, edge, want)
	}
}

func wantNoReply(t *testing.T, what string, x impl.Net, state string, edge, want int64) {
	t.Helper()
	reply, code := impl.ReplyTo(x, state, edge)
	wantValue(t, fmt.Sprintf("%s: ReplyTo %q, %d", what, state, edge), reply, code, 0, want)
}

func wantNotDouble(t *testing.T, what string, x impl.Net, points []int64, want int64) {
	t.Helper()
	double, code := impl.AreDoublyJoined(x, points)
	wantValue(t, fmt.Sprint(what, ": AreDoublyJoined ", points), double, code, false, want)
}

// ErrInvalid comes before all other errors, whatever is beside the net.
func TestNetsInvalidComesFirst(t *testing.T) {
	for name, bad := range badNets() {
		owner, code := impl.OwnerOf(bad)
		wantValue(t, name+": OwnerOf", owner, code, 0, impl.ErrInvalid)
		double, code := impl.FirstDouble(bad)
		wantNoList(t, name+": FirstDouble", double, code, impl.ErrInvalid)
		for _, points := range [][]int64{nil, {}, {0}, {0, 1}, {1, 0}, {0, 0}, {-1}, {8}, {leastInt}, {greatestInt}} {
			wantNotDouble(t, name, bad, points, impl.ErrInvalid)
		}
		open := strings.Repeat(".", len(bad.Edges))
		for _, state := range []string{open, strings.Repeat("s", len(bad.Edges)), strings.Repeat("c", len(bad.Edges)), open + ".", "", "x", ".....", "é"} {
			wantNothingOfState(t, name, bad, state, impl.ErrInvalid)
		}
	}
}

func TestNetOfByHand(t *testing.T) {
	for k, want := range map[int64]string{1: "2 01", 2: "4 02 03 12 13 23"} {
		x, code := impl.NetOf(k)
		wantValue(t, fmt.Sprint("NetOf ", k), fmt.Sprint(x), code, fmt.Sprint(webOf(want).net()), impl.ErrNone)
		if !impl.IsNet(x) || len(x.Edges) != int(k*k+(k-1)*(k-1)) {
			t.Errorf("NetOf %d = %v", k, x)
		}
	}
	tests := map[int64]int64{3: impl.ErrLimit}
	for _, k := range append(strangeNumbers(), 0, 4, -1, 5, 6, 10, -2, -3, 256+1, 1<<32+1, 1<<32+2, 1<<32+3, leastInt, leastInt+1, leastInt+2, leastInt+3, greatestInt) {
		if k < 1 || k > 3 {
			tests[k] = impl.ErrRange
		}
	}
	for k, want := range tests {
		x, code := impl.NetOf(k)
		if code != want || x.Points != 0 || len(x.Edges) != 0 {
			t.Errorf("NetOf %d = %v, code %d; want nothing and code %d", k, x, code, want)
		}
	}
}

func TestStateOverByHand(t *testing.T) {
	tests := []struct {
		web              string
		none, short, cut string // states in which nobody, short and cut has won
	}{
		{"2 01", ".", "s", "c"},
		{"2 01 01", ".. .c c.", "s. .s ss sc cs", "cc"},
		{"3 12", "", "", ". s c"}, {"3 02", "", "", ". s c"}, {"8 23 34 67", "", "", "... sss ccc s.c"},
		{"3 02 12", ".. s. .s", "ss", "c. .c cc sc cs"},
		{"3 01 02 12", "... .s. ..s c.. c.s cs. .c. ..c .cc .sc .cs", "s.. sss scc .ss css s.c sc.", "cc. c.c ccc csc ccs"},
		{"4 02 03 12 13 23", "..... s.... c..c. s..s. ....c ....s c..cs sc..c .s.cs", "s.s.. sss.. .s.s. s..ss .ss.s sccss csscs", "cc... ..cc. c..cc .cc.c ccccc scc.c ccsss ssccs s.ccs"},
		{"8 02 17 23 34 45 56 67", "....... ssssss. .ssssss sss.sss", "sssssss", "c...... ......c sssscss sssc... ccccccc"},
		{"5 01 02 02 12 12 34 34", ".....ss c..c.cc .....cc cc..... css....", "s...... s...ccc .s.s... ..s.s.. csscs..", "ccc.... c..cc.. ccccccc csscc.. cccssss"},
	}
	for _, test := range tests {
		for want, states := range []string{test.none, test.short, test.cut} {
			for state := range strings.FieldsSeq(states) {
				over, code := impl.StateOver(webOf(test.web).net(), state)
				wantValue(t, fmt.Sprint("StateOver ", test.web, " ", state), over, code, int64(want), impl.ErrNone)
			}
		}
	}
	for points := range int64(7) {
		over, code := impl.StateOver(impl.Net{Points: points + 2}, "")
		wantValue(t, fmt.Sprint("StateOver of ", points+2, " points and no edges"), over, code, 2, impl.ErrNone)
	}
}

// stateCase is a state with what the functions return, for short and for cut as the player who moves.
type stateCase struct {
	web, state           string
	winners              [2]int64
	shortMoves, cutMoves string
	plays                [2]string
}

func stateCases() []stateCase {
	return []stateCase{
		{"2", "", [2]int64{2, 2}, "", "", [2]string{"", ""}}, {"8", "", [2]int64{2, 2}, "", "", [2]string{"", ""}},
		{"2 01", ".", [2]int64{1, 2}, "0", "0", [2]string{"s", "c"}}, {"2 01", "s", [2]int64{1, 1}, "", "", [2]string{"s", "s"}}, {"2 01", "c", [2]int64{2, 2}, "", "", [2]string{"c", "c"}},
		{"2 01 01", "..", [2]int64{1, 1}, "0 1", "", [2]string{"s.", "cs"}}, {"2 01 01", "c.", [2]int64{1, 2}, "1", "1", [2]string{"cs", "cc"}},
		{"2 01 01 01", "...", [2]int64{1, 1}, "0 1 2", "", [2]string{"s..", "cs."}}, {"2 01 01 01", ".c.", [2]int64{1, 1}, "0 2", "", [2]string{"sc.", "ccs"}},
		// Over, though an edge is open.
		{"3 12", ".", [2]int64{2, 2}, "", "", [2]string{".", "."}}, {"8 23 34 67", "s..", [2]int64{2, 2}, "", "", [2]string{"s..", "s.."}}, {"2 01 01", "s.", [2]int64{1, 1}, "", "", [2]string{"s.", "s."}},
		{"3 02 12", "..", [2]int64{2, 2}, "", "0 1", [2]string{"sc", "c."}}, {"3 02 12", ".s", [2]int64{1, 2}, "0", "0", [2]string{"ss", "cs"}},
		{"3 01 02 12", "...", [2]int64{1, 2}, "0 1 2", "0", [2]string{"s..", "csc"}}, {"3 01 02 12", ".s.", [2]int64{1, 1}, "0 2", "", [2]string{"ss.", "css"}}, {"3 01 02 12", "..c", [2]int64{1, 2}, "0", "0", [2]string{"s.c", "c.c"}},
		{"3 01 02 02 12", "....", [2]int64{1, 1}, "0 1 2 3", "", [2]string{"s...", "ccss"}},
		{"4 02 03 12 13", "....", [2]int64{2, 2}, "", "0 1 2 3", [2]string{"sscc", "cs.c"}},
		{"4 02 03 12 13 23", ".....", [2]int64{1, 2}, "0 1 2 3 4", "0 1 2 3 4", [2]string{"scs..", "csscc"}},
		{"4 02 03 12 13 23", "s....", [2]int64{1, 1}, "1 2 3 4", "", [2]string{"sscs.", "scs.."}}, {"4 02 03 12 13 23", "c....", [2]int64{2, 2}, "", "1 2 3 4", [2]string{"csscc", "cc..."}},
		{"4 02 03 12 13 23", "cs...", [2]int64{1, 2}, "2 3 4", "3", [2]string{"csscs", "csscc"}},
		{"4 02 03 12 13 23", "s.s..", [2]int64{1, 1}, "", "", [2]string{"s.s..", "s.s.."}}, {"4 02 03 12 13 23", "..cc.", [2]int64{2, 2}, "", "", [2]string{"..cc.", "..cc."}},
		{"8 02 17 23 34 45 56 67", ".......", [2]int64{2, 2}, "", "0 1 2 3 4 5 6", [2]string{"sc.....", "c......"}}, {"8 02 17 23 34 45 56 67", "sss.sss", [2]int64{1, 2}, "3", "3", [2]string{"sssssss", "ssscsss"}},
		// Edges that do not matter are moves by which a player wins, too.
		{"5 01 02 02 12 12 34 34", ".......", [2]int64{1, 1}, "0 1 2 3 4 5 6", "", [2]string{"s......", "cscs..."}}, {"4 02 12 23", "...", [2]int64{2, 2}, "", "0 1 2", [2]string{"sc.", "c.."}}, {"3 02 12", "c.", [2]int64{2, 2}, "", "", [2]string{"c.", "c."}},
		{"4 01 01 23", "..c", [2]int64{1, 1}, "0 1", "", [2]string{"s.c", "csc"}}, {"4 01 01 23", "...", [2]int64{1, 1}, "0 1 2", "", [2]string{"s..", "cs."}},
		{"2 01 01 01 01 01 01 01 01 01 01", "..........", [2]int64{1, 1}, "0 1 2 3 4 5 6 7 8 9", "", [2]string{"s.........", "cs........"}}, {"2 01 01 01 01 01 01 01 01 01 01", "ccccccccc.", [2]int64{1, 2}, "9", "9", [2]string{"cccccccccs", "cccccccccc"}},
	}
}

func TestStatesByHand(t *testing.T) {
	for _, test := range stateCases() {
		x := webOf(test.web).net()
		for k, short := range []bool{true, false} {
			what := fmt.Sprint(" ", test.web, " ", test.state, " ", short)
			winner, code := impl.StateWinner(x, test.state, short)
			wantValue(t, "StateWinner"+what, winner, code, test.winners[k], impl.ErrNone)
			moves, code := impl.StateMoves(x, test.state, short)
			wantList(t, "StateMoves"+what, moves, code, numbers([]string{test.shortMoves, test.cutMoves}[k]))
			play, code := impl.PlayState(x, test.state, short)
			wantValue(t, "PlayState"+what, play, code, test.plays[k], impl.ErrNone)
		}
	}
}

// Which kinds of states with a player who moves have been looked at.
type stateKinds map[string]int

func (kinds stateKinds) add(state string, over, mover, winner int64, moves int) {
	open := min(strings.Count(state, "."), 1)
	if over > 0 {
		kinds[fmt.Sprint("over for ", over, ", open ", open)]++
		return
	}
	kinds[fmt.Sprint("mover ", mover, ", winner ", winner)]++
	if winner == mover && moves < strings.Count(state, ".") {
		kinds[fmt.Sprint("mover ", mover, ", not by all moves")]++
	}
}

func (kinds stateKinds) check(t *testing.T, least int) {
	t.Helper()
	for _, kind := range []string{
		"over for 1, open 0", "over for 1, open 1", "over for 2, open 0", "over for 2, open 1",
		"mover 1, winner 1", "mover 1, winner 2", "mover 2, winner 1", "mover 2, winner 2", "mover 1, not by all moves", "mover 2, not by all moves",
	} {
		if kinds[kind] < least {
			t.Errorf("only %d states, %s", kinds[kind], kind)
		}
	}
}

// wantState checks all that is told of a state.
func wantState(t *testing.T, g webGame, state string, kinds stateKinds) {
	t.Helper()
	x := g.net()
	what := fmt.Sprint(" ", g.text(), ", ", state)
	over, code := impl.StateOver(x, state)
	wantValue(t, "StateOver"+what, over, code, g.over(state), impl.ErrNone)
	for mover := int64(1); mover <= 2; mover++ {
		winner, code := impl.StateWinner(x, state, mover == 1)
		wantValue(t, fmt.Sprint("StateWinner", what, mover == 1), winner, code, g.winner(state, mover), impl.ErrNone)
		moves, code := impl.StateMoves(x, state, mover == 1)
		wantList(t, fmt.Sprint("StateMoves", what, mover == 1), moves, code, g.moves(state, mover))
		play, code := impl.PlayState(x, state, mover == 1)
		wantValue(t, fmt.Sprint("PlayState", what, mover == 1), play, code, g.play(state, mover), impl.ErrNone)
		kinds.add(state, over, mover, winner, len(moves))
	}
}

func TestStatesAgainstWebs(t *testing.T) {
	var d dice = 20
	kinds := stateKinds{}
	for _, g := range manyGames() {
		for _, state := range d.statesOf(g.web) {
			wantState(t, g, state, kinds)
		}
	}
	kinds.check(t, 300)
}

// All states of some nets.
func TestAllStatesOfWebs(t *testing.T) {
	kinds := stateKinds{}
	for _, text := range []string{"4 02 03 12 13 23", "3 01 02 02 12 12", "4 02 02 03 12 13 13", "5 02 03 12 14 24 34", "8 06 07 16 17 67"} {
		g := gameOn(webOf(text))
		for _, state := range smallTexts(len(g.edges), 1, ".sc") {
			wantState(t, g, state, kinds)
		}
	}
	kinds.check(t, 50)
}

func TestOwnersByHand(t *testing.T) {
	for want, texts := range [][]string{
		{"2 01", "8 01", "3 01 02 12", "4 02 03 12 13 23", "8 06 07 16 17 67", "3 01 02", "5 01 23 34"},
		{"2 01 01", "2 01 01 01", "3 02 02 12 12", "3 01 02 02 12", "5 01 01 23 23", "8 07 07 17 17", "5 01 02 02 12 12 34 34", "6 02 03 14 15 23 24 25 34 35 45", "2 01 01 01 01 01 01 01 01 01 01"},
		{"2", "8", "3 02", "3 12", "3 02 12", "3 02 02", "4 02 03 12 13", "4 02 03 23", "4 02 02 13 13", "8 02 17 23 34 45 56 67", "8 23 34 67"},
	} {
		for _, text := range texts {
			owner, code := impl.OwnerOf(webOf(text).net())
			wantValue(t, "OwnerOf "+text, owner, code, int64(want), impl.ErrNone)
		}
	}
	owner, code := impl.OwnerOf(first(impl.NetOf(2)))
	wantValue(t, "OwnerOf the net of 2", owner, code, 0, impl.ErrNone)
}

func TestOwnersAgainstWebs(t *testing.T) {
	owners := map[int64]int{}
	for _, g := range manyGames() {
		owner, code := impl.OwnerOf(g.net())
		wantValue(t, "OwnerOf "+g.text(), owner, code, g.owner(), impl.ErrNone)
		owners[owner]++
	}
	if min(owners[0], owners[1], owners[2]) < 40 || len(owners) != 3 {
		t.Errorf("the owners of nets are %v", owners)
	}
}

func TestStatesOutOfRange(t *testing.T) {
	for n, g := range manyGames() {
		x, open := g.net(), g.open()
		for _, state := range []string{open + ".", open + "s", open + "c", open + " ", "." + open, open + open + "..", open + "\n", strings.Repeat(".", 1000), open + "x"} {
			wantNothingOfState(t, g.text(), x, state, impl.ErrRange)
		}
		if open == "" {
			continue
		}
		for _, state := range []string{"", open[1:], strings.Repeat("s", len(open)-1), strings.Repeat("c", len(open)-1)} {
			wantNothingOfState(t, g.text(), x, state, impl.ErrRange)
		}
		for k := range open {
			for _, sign := range []string{"S", "C", "x", " ", "\n", "\x00", "0", "1", "2", ",", "\xff", "-"} {
				for _, state := range []string{open, strings.Repeat("s", len(open)), strings.Repeat("c", len(open))} {
					if n%7 == 0 {
						wantNothingOfState(t, g.text(), x, state[:k]+sign+state[k+1:], impl.ErrRange)
					}
				}
			}
		}
	}
	// As many bytes as edges, or as many signs.
	x := webOf("3 02 12").net()
	for sign := range 256 {
		for _, state := range []string{string([]byte{byte(sign), '.'}), string([]byte{'s', byte(sign)})} {
			want := int64(impl.ErrRange)
			if strings.IndexByte(".sc", byte(sign)) >= 0 {
				want = impl.ErrNone
			}
			if over, code := impl.StateOver(x, state); code != want || code != impl.ErrNone && over != 0 {
				t.Errorf("StateOver of %q = %d, code %d; want the code %d", state, over, code, want)
			}
		}
	}
	for _, state := range []string{"é", ".é", "é.", "éé", "…", "😀"} {
		wantNothingOfState(t, "two edges", x, state, impl.ErrRange)
	}
}

func TestRepliesByHand(t *testing.T) {
	tests := []struct {
		web, state string
		edge       int64
		want, code int64
	}{
		{"2 01 01", "..", 0, 1, impl.ErrNone}, {"2 01 01", "..", 1, 0, impl.ErrNone}, {"2 01 01 01", "...", 0, 1, impl.ErrNone}, {"2 01 01 01", "...", 2, 0, impl.ErrNone}, {"2 01 01 01", "c..", 1, 2, impl.ErrNone},
		{"4 02 03 12 13 23", "s....", 1, 2, impl.ErrNone}, {"4 02 03 12 13 23", "s....", 2, 3, impl.ErrNone}, {"4 02 03 12 13 23", "s....", 3, 2, impl.ErrNone}, {"4 02 03 12 13 23", "s....", 4, 1, impl.ErrNone},
		{"5 01 02 02 12 12 34 34", ".......", 6, 0, impl.ErrNone}, {"5 01 02 02 12 12 34 34", ".......", 0, 1, impl.ErrNone}, {"5 01 02 02 12 12 34 34", "c......", 1, 2, impl.ErrNone}, {"5 01 02 02 12 12 34 34", "cc.....", 5, 2, impl.ErrNone},
		// Cut wins at once, or with best moves.
		{"2 01", ".", 0, 0, impl.ErrNotFound}, {"2 01 01", "c.", 1, 0, impl.ErrNotFound}, {"3 02 12", "..", 0, 0, impl.ErrNotFound}, {"3 02 12", "s.", 1, 0, impl.ErrNotFound},
		{"4 02 03 12 13 23", ".....", 0, 0, impl.ErrNotFound}, {"4 02 03 12 13 23", ".....", 4, 0, impl.ErrNotFound}, {"4 02 03 12 13", "....", 3, 0, impl.ErrNotFound}, {"5 01 02 02 12 12 34 34", "cc.....", 2, 0, impl.ErrNotFound},
		// Not open.
		{"2 01 01", "c.", 0, 0, impl.ErrState}, {"2 01 01 01", "cc.", 1, 0, impl.ErrState}, {"4 02 03 12 13 23", "s....", 0, 0, impl.ErrState}, {"3 02 12", "s.", 0, 0, impl.ErrState},
		// Over, for short and for cut, with an edge that is open or not.
		{"2 01", "s", 0, 0, impl.ErrState}, {"2 01", "c", 0, 0, impl.ErrState}, {"2 01 01", "s.", 0, 0, impl.ErrState}, {"2 01 01", "s.", 1, 0, impl.ErrState}, {"3 12", ".", 0, 0, impl.ErrState}, {"3 02 12", "c.", 1, 0, impl.ErrState}, {"3 02 12", "ss", 1, 0, impl.ErrState},
		{"4 02 03 12 13 23", "s.s..", 1, 0, impl.ErrState}, {"4 02 03 12 13 23", "cc...", 2, 0, impl.ErrState}, {"4 02 03 12 13 23", "cc...", 0, 0, impl.ErrState},
	}
	for _, test := range tests {
		reply, code := impl.ReplyTo(webOf(test.web).net(), test.state, test.edge)
		wantValue(t, fmt.Sprint("ReplyTo ", test.web, " ", test.state, " ", test.edge), reply, code, test.want, test.code)
	}
}

func TestRepliesAgainstWebs(t *testing.T) {
	var d dice = 30
	codes := map[int64]int{}
	for n, g := range manyGames() {
		for _, state := range d.statesOf(g.web) {
			for edge := range g.edges {
				want, wantCode := g.reply(state, edge)
				reply, code := impl.ReplyTo(g.net(), state, int64(edge))
				wantValue(t, fmt.Sprint("ReplyTo ", g.text(), ", ", state, ", ", edge), reply, code, want, wantCode)
				codes[code]++
			}
			// Numbers of no edges, also where the state is over.
			for _, edge := range []int64{-1, int64(len(g.edges)), int64(len(g.edges)) + 1, 10, leastInt, greatestInt, 256, 1 << 32} {
				if n%5 == 0 || len(g.edges) <= 2 {
					wantNoReply(t, g.text(), g.net(), state, edge, impl.ErrRange)
				}
			}
		}
	}
	if min(codes[impl.ErrNone], codes[impl.ErrState], codes[impl.ErrNotFound]) < 1000 || len(codes) != 3 {
		t.Errorf("the codes of replies are %v", codes)
	}
}

func TestDoublesByHand(t *testing.T) {
	tests := []struct{ web, is, no string }{
		{"2", "0,1", "0 1"}, {"2 01", "0,1", "0 1"}, {"2 01 01", "0,1,0 1", ""}, {"2 01 01 01", "0 1", ""},
		{"8", "0,1,2,3,4,5,6,7", "0 1,6 7,0 1 2 3 4 5 6 7"},
		{"3 02 02 12 12", "0 1 2,0 2,1 2,2", "0 1"}, {"3 01 02 12", "", "0 1,0 2,1 2,0 1 2"}, {"3 01 02 02 12", "0 1 2,0 2", "0 1,1 2"}, {"3 01 02 02 02", "0 2", "0 1 2,0 1,1 2"},
		{"4 02 03 12 13 23", "2,3", "0 1 2 3,2 3,0 2 3,0 1"},
		// Enough edges, but one point has too few of them.
		{"4 01 01 01 01 02 13", "0 1", "0 1 2,0 1 3,0 1 2 3"}, {"4 01 01 02 02 03 13", "0 1,0 2,0 1 2,0 1 3,0 1 2 3", "0 3,1 3,2 3,1 2,1 2 3,0 2 3"},
		// Two parts that are doubly joined, and what joins them.
		{"4 02 02 13 13", "0 2,1 3", "0 1 2 3,0 1,2 3"}, {"4 02 02 13 13 23", "0 2,1 3", "0 1 2 3,2 3"}, {"4 02 02 13 13 23 23", "0 1 2 3,2 3,0 2 3,1 2 3", "0 1,0 1 2,0 1 3"}, {"4 02 02 03 12 13 13", "0 2,1 3,0 1 2 3", "0 1 2,0 1 3,0 1"},
		{"4 01 02 03 12 13 23", "0 1 2 3", "0 1,0 1 2,1 2 3,2 3"}, {"8 45 46 47 56 57 67", "4 5 6 7", "4 5 6,0 1 2 3 4 5 6 7,3 4 5 6 7,0 1"},
		{"6 02 03 14 15 23 24 25 34 35 45", "0 1 2 3 4 5,2 3 4 5,0 2 3 4 5,1 2 3 4 5", "0 1 2 3,0 2 3,1 4 5,0 1 2 3 4,0 1"},
		{"5 02 03 04 12 13 14 23 24 34", "0 1 2 3 4", "0 1 2 3,0 2 3"},
		{"8 02 02 12 12 23 23 34 34 45 45", "0 1 2 3 4 5,0 2 3 4 5,3 4 5,2 3,1 2,0 1 2", "0 1 2 4,0 1 2 3 4 5 6,3 5,0 1"},
	}
	for _, test := range tests {
		for want, sets := range map[bool]string{true: test.is, false: test.no} {
			for set := range strings.SplitSeq(sets, ",") {
				if set != "" {
					double, code := impl.AreDoublyJoined(webOf(test.web).net(), numbers(set))
					wantValue(t, fmt.Sprint("AreDoublyJoined ", test.web, ": ", set), double, code, want, impl.ErrNone)
				}
			}
		}
	}
}

func TestFirstDoubleByHand(t *testing.T) {
	for text, want := range map[string]string{
		"2 01 01": "0 1", "8 01 01": "0 1", "3 02 02 12 12": "0 1 2", "3 01 02 02 12": "0 1 2", "8 07 07 17 17": "0 1 7", "4 01 02 03 03 13": "0 1 3", "4 02 02 03 03 12 12 13 13": "0 1 2", "5 01 01 02 02 12 12": "0 1",
		// A greater point, but fewer points; and all points.
		"5 02 02 04 04 13 13 14 14 23 23": "0 1 4", "5 02 03 04 12 13 14 23 24 34": "0 1 2 3 4", "6 02 03 14 15 23 24 25 34 35 45": "0 1 2 3 4 5", "4 02 02 13 13 23 23": "0 1 2 3", "6 04 04 15 15 45 45": "0 1 4 5", "7 05 06 15 16 56 56": "0 1 5 6", "4 02 02 03 12 13 13": "0 1 2 3", "8 06 06 07 13 13 17 36 37 67": "0 1 3 6 7",
		"2": "", "2 01": "", "8": "", "3 01 02 12": "", "4 02 03 12 13 23": "", "4 02 02 13 13": "", "4 02 02 13 13 23": "", "4 23 23 23": "", "8 02 17 23 34 45 56 67": "", "4 02 02 02 02 02 12 13 13 13 13": "",
	} {
		double, code := impl.FirstDouble(webOf(text).net())
		if want == "" {
			wantNoList(t, "FirstDouble "+text, double, code, impl.ErrNotFound)
		} else {
			wantList(t, "FirstDouble "+text, double, code, numbers(want))
		}
	}
}

func TestDoublesAgainstWebs(t *testing.T) {
	kinds, sizes := map[bool]int{}, map[int]int{}
	for _, g := range manyGames() {
		for set := 1; set < 1<<g.points; set++ {
			points := g.pointsIn(set)
			double, code := impl.AreDoublyJoined(g.net(), points)
			wantValue(t, fmt.Sprint("AreDoublyJoined ", g.text(), ": ", points), double, code, g.isDouble(points), impl.ErrNone)
			if len(points) > 1 {
				kinds[double]++
			}
		}
		double, code := impl.FirstDouble(g.net())
		if doubles := g.doubles(); len(doubles) > 0 {
			wantList(t, "FirstDouble "+g.text(), double, code, doubles[0])
			sizes[len(doubles[0])]++
			sizes[-min(len(doubles), 3)]++
		} else {
			wantNoList(t, "FirstDouble "+g.text(), double, code, impl.ErrNotFound)
		}
	}
	if kinds[true] < 500 || kinds[false] < 5000 {
		t.Errorf("sets are doubly joined, or not: %v", kinds)
	}
	for size, least := range map[int]int{2: 10, 3: 10, 4: 5, 5: 5, 6: 2, -1: 10, -2: 10, -3: 10} {
		if sizes[size] < least {
			t.Errorf("sizes of first sets, and numbers of sets less than 0: %v", sizes)
		}
	}
}

func TestPointsOutOfRange(t *testing.T) {
	for _, g := range manyGames() {
		n := int64(g.points)
		for _, points := range [][]int64{
			nil, {}, {-1}, {n}, {n + 1}, {0, n}, {-1, 0}, {-1, 0, 1}, {0, 1, n}, {0, 0}, {1, 1}, {n - 1, n - 1}, {1, 0}, {0, 1, 1}, {0, 0, 1}, {0, 1, 0}, {n - 1, n - 2}, {n - 1, 0}, upTo(0, n), upTo(-1, n-1), repeat(0, 100), upTo(0, 1000),
			{leastInt}, {greatestInt}, {leastInt, 0}, {0, greatestInt}, {leastInt, greatestInt}, {256}, {0, 256 + 1}, {1 << 32}, {0, 1<<32 + 1}, {0, 1, leastInt}, {greatestInt, leastInt},
		} {
			wantNotDouble(t, g.text(), g.net(), points, impl.ErrRange)
		}
	}
	for _, text := range []string{"2 1 0", "0 2 1", "1 0 2", "0 1 3 2", "0 1 2 2", "3 2 1 0"} {
		wantNotDouble(t, "in no order", webOf("4 01 01 12 12 23 23").net(), numbers(text), impl.ErrRange)
	}
}

// Promise 10, and the guarantee: plays by best moves are won by the winner. Each move of a play is
// the first one of StateMoves, if there is one.
func TestPlaysAreWonByTheWinner(t *testing.T) {
	var d dice = 40
	won := map[string]int{}
	for _, g := range manyGames() {
		x := g.net()
		for _, state := range d.statesOf(g.web) {
			for _, short := range []bool{true, false} {
				what := fmt.Sprint(" ", g.text(), ", ", state, ", ", short)
				winner := first(impl.StateWinner(x, state, short))
				play, code := impl.PlayState(x, state, short)
				over, overCode := impl.StateOver(x, play)
				if code != impl.ErrNone || overCode != impl.ErrNone || over != winner || over == 0 {
					t.Errorf("PlayState%s = %s, code %d, won by %d, code %d; want %d", what, play, code, over, overCode, winner)
				}
				for k, sign := range state {
					if sign != '.' && play[k] != state[k] {
						t.Errorf("PlayState%s = %s changes the edge %d", what, play, k)
					}
				}
				used := strings.Count(state, ".") - strings.Count(play, ".")
				if kept := strings.Count(play, "s") - strings.Count(state, "s"); short && kept != (used+1)/2 || !short && kept != used/2 {
					t.Errorf("PlayState%s = %s keeps %d edges of %d", what, play, kept, used)
				}
				won[fmt.Sprint(short, " ", winner)]++
				won[fmt.Sprint("all used ", !strings.Contains(play, "."))]++
			}
		}
	}
	for _, kind := range []string{"true 1", "true 2", "false 1", "false 2", "all used true", "all used false"} {
		if won[kind] < 500 {
			t.Errorf("plays are %v", won)
		}
	}
}

// Behind a move of StateMoves the player who made it is the winner, and behind others it is not.
func TestMovesKeepTheWinner(t *testing.T) {
	var d dice = 50
	for n, g := range manyGames() {
		if n%3 > 0 {
			continue
		}
		x := g.net()
		for _, state := range d.statesOf(g.web) {
			if over := first(impl.StateOver(x, state)); over != 0 {
				continue
			}
			for mover := int64(1); mover <= 2; mover++ {
				moves := first(impl.StateMoves(x, state, mover == 1))
				for k := range state {
					if state[k] != '.' {
						continue
					}
					winner, code := impl.StateWinner(x, marked(state, k, mover), mover == 2)
					want := 3 - mover
					if slices.Contains(moves, int64(k)) {
						want = mover
					}
					wantValue(t, fmt.Sprint("StateWinner ", g.text(), ", ", state, " behind ", k), winner, code, want, impl.ErrNone)
				}
			}
		}
	}
}

// Promise 14, and the guarantee: nets are short's exactly if some doubly joined set has both
// terminals. Then short, too, has a reply to each move of cut.
func TestNetsOfShortAreDoublyJoined(t *testing.T) {
	owners := map[int64]int{}
	for n, w := range slices.Concat(smallWebs(), plainWebs(), websOn(3, 6), websOn(4, 4), drawnWebs(60, 400)) {
		x := w.net()
		double, code := impl.FirstDouble(x)
		owner := first(impl.OwnerOf(x))
		if (owner == 1) != (code == impl.ErrNone) {
			t.Errorf("%s: the owner is %d, and FirstDouble %v, code %d", w.text(), owner, double, code)
		}
		owners[owner]++
		if code == impl.ErrNone {
			is, code := impl.AreDoublyJoined(x, double)
			wantValue(t, fmt.Sprint("AreDoublyJoined ", w.text(), double), is, code, true, impl.ErrNone)
			if len(double) < 2 || double[0] != 0 || double[1] != 1 {
				t.Errorf("FirstDouble %s = %v has not both terminals", w.text(), double)
			}
			for edge := range w.edges {
				if reply, code := impl.ReplyTo(x, w.open(), int64(edge)); code != impl.ErrNone || reply == int64(edge) {
					t.Errorf("ReplyTo %s, %d = %d, code %d", w.text(), edge, reply, code)
				}
			}
		}
		some := false
		for set := 3; set < 1<<w.points && n%3 == 0; set += 4 {
			some = some || first(impl.AreDoublyJoined(x, w.pointsIn(set)))
		}
		if n%3 == 0 && some != (owner == 1) {
			t.Errorf("%s: the owner is %d, but that some set is doubly joined is %v", w.text(), owner, some)
		}
	}
	if min(owners[0], owners[1], owners[2]) < 100 {
		t.Errorf("the owners of nets are %v", owners)
	}
}

// The guarantee: just one player wins a state that is full.
func TestFullStatesAreWonByOne(t *testing.T) {
	full := map[int64]int{}
	for _, g := range manyGames() {
		for set := range 1 << len(g.edges) {
			state := []byte(g.open())
			for k := range state {
				state[k] = "sc"[set>>k&1]
			}
			over, code := impl.StateOver(g.net(), string(state))
			want := int64(2)
			if colours := g.painted(func(k int) bool { return state[k] == 's' }); colours[0] == colours[1] {
				want = 1
			}
			wantValue(t, fmt.Sprint("StateOver ", g.text(), ", ", string(state)), over, code, want, impl.ErrNone)
			full[over]++
		}
	}
	if full[1] < 10000 || full[2] < 10000 {
		t.Errorf("full states are won %v", full)
	}
}

// roomyNet returns a copy of a net with spare capacity behind all lists, and the whole of the memory
// of each one.
func roomyNet(x impl.Net) (impl.Net, [][][]int64) {
	spare := []int64{77, 78, 79}
	whole := [][][]int64{{}, {}}
	for _, edge := range x.Edges {
		list, all := roomy(edge)
		whole[0] = append(whole[0], list)
		whole[1] = append(whole[1], all)
	}
	whole[0] = append(whole[0], spare, spare)
	return impl.Net{Points: x.Points, Edges: whole[0][:len(x.Edges)]}, whole
}

func TestNetArgumentsStayAsTheyAre(t *testing.T) {
	for _, g := range manyGames() {
		x, whole := roomyNet(g.net())
		points, allPoints := roomy(upTo(0, x.Points-1))
		before := fmt.Sprint(x, whole, allPoints)
		impl.IsNet(x)
		impl.StateOver(x, g.open())
		impl.StateWinner(x, g.open(), true)
		spoil(first(impl.StateMoves(x, g.open(), true)))
		spoil(first(impl.StateMoves(x, g.open(), false)))
		impl.OwnerOf(x)
		impl.AreDoublyJoined(x, points)
		impl.AreDoublyJoined(x, points[:1])
		spoil(first(impl.FirstDouble(x)))
		impl.PlayState(x, g.open(), true)
		impl.PlayState(x, g.open(), false)
		impl.ReplyTo(x, g.open(), 0)
		if got := fmt.Sprint(x, whole, allPoints); got != before {
			t.Errorf("the arguments %s have become %s", before, got)
		}
	}
	arms, allArms := roomy([]int64{3, 1, 2})
	before := fmt.Sprint(arms, allArms)
	impl.CrossMoves(arms)
	impl.CrossWinner(arms)
	if got := fmt.Sprint(arms, allArms); got != before {
		t.Errorf("the arms %s have become %s", before, got)
	}
}

func TestEdgesOfNetsShareNoMemory(t *testing.T) {
	wantApart(t, "NetOf 1", 1, func() [][]int64 { return first(impl.NetOf(1)).Edges })
	wantApart(t, "NetOf 2", 5, func() [][]int64 { return first(impl.NetOf(2)).Edges })
}

func TestNetsKeepNoState(t *testing.T) {
	wantNoState(t, func() string {
		text := ""
		for k := int64(1); k <= 2; k++ {
			x, code := impl.NetOf(k)
			text += fmt.Sprintln(x, code)
			for _, edge := range x.Edges {
				spoil(edge)
			}
		}
		for _, w := range append(plainWebs(), drawnWebs(70, 12)...) {
			x := w.net()
			owner, code := impl.OwnerOf(x)
			double, second := impl.FirstDouble(x)
			moves, third := impl.StateMoves(x, w.open(), true)
			winner, fourth := impl.StateWinner(x, w.open(), false)
			play, fifth := impl.PlayState(x, w.open(), false)
			reply, sixth := impl.ReplyTo(x, w.open(), 1)
			text += fmt.Sprintln(owner, code, double, second, moves, third, winner, fourth, play, fifth, reply, sixth)
			spoil(double)
			spoil(moves)
		}
		return text
	}, func() { impl.OwnerOf(webOf("2 01").net()) })
}

func TestCrossesByHand(t *testing.T) {
	tests := []struct {
		arms         []int64
		moves, after int64
	}{
		{[]int64{4, 4}, 8, 1}, {[]int64{4}, 3, 0}, {[]int64{4, 4, 4}, 13, 0}, {[]int64{4, 4, 4, 4}, 18, 1},
		// No moves, and one.
		{[]int64{1}, 0, 1}, {[]int64{2}, 1, 0}, {[]int64{1, 1}, 2, 1}, {[]int64{3}, 2, 1}, {[]int64{1, 2}, 3, 0}, {[]int64{2, 1}, 3, 0}, {[]int64{1, 1, 1}, 4, 1}, {[]int64{5, 1, 3}, 10, 1},
		{[]int64{1000}, 999, 0}, {[]int64{999}, 998, 1}, {[]int64{1000, 1}, 1001, 0}, {[]int64{1, 1000}, 1001, 0}, {upTo(1, 100), 5050 + 98, 1}, {upTo(901, 1000), 95050 + 98, 1},
		{repeat(1, 100), 198, 1}, {repeat(1, 99), 196, 1}, {repeat(1000, 100), 100098, 1}, {append(repeat(1000, 99), 999), 100097, 0}, {repeat(1000, 99), 99097, 0},
	}
	for _, test := range tests {
		moves, code := impl.CrossMoves(test.arms)
		wantValue(t, fmt.Sprint("CrossMoves ", test.arms), moves, code, test.moves, impl.ErrNone)
		winner, code := impl.CrossWinner(test.arms)
		wantValue(t, fmt.Sprint("CrossWinner ", test.arms), winner, code, test.after, impl.ErrNone)
	}
}

// paper is a drawing of crosses: for each part into which lines cut the paper, the numbers of the
// free arms of the figures at its border.
type paper [][]int64

// text is the same for papers on which only the order differs.
func (p paper) text() string {
	var parts []string
	for _, figures := range p {
		parts = append(parts, fmt.Sprint(slices.Sorted(slices.Values(figures))))
	}
	slices.Sort(parts)
	return strings.Join(parts, " ")
}

// with returns the paper with one part in the place of another one.
func (p paper) with(part int, parts ...[]int64) paper {
	return append(slices.Delete(slices.Clone(p), part, part+1), parts...)
}

// lines returns the papers behind all moves. A line between two figures makes them one figure: two
// arms are lost, and the stroke gives two. A line between two arms of one figure cuts its part in two,
// with an arm of the stroke in each one; the other figures can be in each of both.
func (p paper) lines() []paper {
	var behind []paper
	for part, figures := range p {
		for one, arms := range figures {
			rest := slices.Delete(slices.Clone(figures), one, one+1)
			for other := one; other < len(rest); other++ {
				joined := slices.Clone(rest)
				joined[other] += arms
				behind = append(behind, p.with(part, joined))
			}
			for within := int64(0); within <= arms-2; within++ {
				for set := range 1 << len(rest) {
					inside, outside := []int64{within + 1}, []int64{arms - 1 - within}
					for k, figure := range rest {
						if set>>k&1 == 1 {
							inside = append(inside, figure)
						} else {
							outside = append(outside, figure)
						}
					}
					behind = append(behind, p.with(part, inside, outside))
				}
			}
		}
	}
	return behind
}

// lengths returns the least and the greatest number of moves.
func (p paper) lengths(known map[string][2]int64) [2]int64 {
	text := p.text()
	if lengths, ok := known[text]; ok {
		return lengths
	}
	var lengths [2]int64
	for k, next := range p.lines() {
		behind := next.lengths(known)
		if k == 0 {
			lengths = [2]int64{behind[0] + 1, behind[1] + 1}
		}
		lengths = [2]int64{min(lengths[0], behind[0]+1), max(lengths[1], behind[1]+1)}
	}
	known[text] = lengths
	return lengths
}

// All plays of a few crosses have as many moves as CrossMoves tells.
func TestCrossesAgainstPapers(t *testing.T) {
	known := map[string][2]int64{}
	lists := [][]int64{nil}
	for k := 0; k < len(lists); k++ {
		sum := int64(0)
		for _, n := range lists[k] {
			sum += n
		}
		for n := int64(1); sum+n+int64(len(lists[k])) <= 9; n++ {
			lists = append(lists, append(slices.Clone(lists[k]), n))
		}
		if k == 0 {
			continue
		}
		lengths := paper{lists[k]}.lengths(known)
		moves, code := impl.CrossMoves(lists[k])
		if code != impl.ErrNone || lengths != [2]int64{moves, moves} {
			t.Errorf("CrossMoves %v = %d, code %d; want %v", lists[k], moves, code, lengths)
		}
		last := int64(1)
		for move := range lengths[0] {
			last = move % 2
		}
		winner, code := impl.CrossWinner(lists[k])
		wantValue(t, fmt.Sprint("CrossWinner ", lists[k]), winner, code, last, impl.ErrNone)
	}
	if len(lists) < 80 {
		t.Errorf("only %d lists", len(lists))
	}
}

func TestCrossesOutOfRange(t *testing.T) {
	lists := [][]int64{nil, {}, repeat(1, 101), repeat(1000, 101), repeat(4, 1000), repeat(0, 101), repeat(0, 100), upTo(0, 99), upTo(902, 1001)}
	for _, n := range []int64{0, 1001, -1, -4, 1002, 2000, 256 * 256, 1<<32 + 1, leastInt, leastInt + 4, greatestInt, greatestInt - 1} {
		lists = append(lists, []int64{n}, []int64{n, 4}, []int64{4, n}, []int64{n, n}, []int64{4, n, 4}, []int64{n, -n}, append(repeat(1, 99), n), append([]int64{n}, repeat(1000, 99)...), append(repeat(1, 100), n))
	}
	for _, arms := range lists {
		moves, code := impl.CrossMoves(arms)
		wantValue(t, fmt.Sprint("CrossMoves ", arms), moves, code, 0, impl.ErrRange)
		winner, code := impl.CrossWinner(arms)
		wantValue(t, fmt.Sprint("CrossWinner ", arms), winner, code, 0, impl.ErrRange)
	}
}
