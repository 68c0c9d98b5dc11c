package tests

import (
	"fmt"
	"math"
	"math/rand"
	"slices"
	"strings"
	"testing"

	"loop.example/g00613/impl"
)

// wrongLevels: numbers that are no level at all.
var wrongLevels = []int{-1, impl.MaxLevel + 1, 63, 64, 1 << 32, math.MinInt, math.MaxInt}

// plainMany: so many steps on the whole plane.
func plainMany(l cells, steps int) cells {
	for range steps {
		l = plainStep(l)
	}
	return l
}

// shiftedBy: the cells with X less by x and Y less by y: what they are from there on.
func shiftedBy(l cells, x, y int) cells {
	l = slices.Clone(l)
	for i := range l {
		l[i] = at(l[i].X-x, l[i].Y-y)
	}
	return l
}

// inSquare: those cells that are within the square of that side.
func inSquare(l cells, side int) cells {
	return having(l, func(c impl.Cell) bool { return 0 <= min(c.X, c.Y) && max(c.X, c.Y) < side })
}

// plainMiddle: the cells that come of the middle of a quad, from its upper left cell on.
func plainMiddle(l cells, level int) cells {
	quarter := 1 << level / 4
	return inSquare(shiftedBy(plainMany(l, quarter), quarter, quarter), 2*quarter)
}

// plainResult: ResultOf by the words of the document.
func plainResult(f impl.Forest, q int) (impl.Forest, int, bool) {
	level := f.Quads[q].Level
	if level < 2 {
		return impl.Forest{}, 0, false
	}
	return plainTree(f, level-1, plainMiddle(cellsOfPicture(pictures(f)[q]), level))
}

// plainNine: NineOf by the words of the document, each square cut out of the plane.
func plainNine(f impl.Forest, q int) (impl.Forest, []int, bool) {
	level := f.Quads[q].Level
	if level < 2 {
		return impl.Forest{}, nil, false
	}
	l := cellsOfPicture(pictures(f)[q])
	quarter := 1 << level / 4
	var nine []int
	for _, y := range []int{0, quarter, 2 * quarter} {
		for _, x := range []int{0, quarter, 2 * quarter} {
			g, n, ok := plainTree(f, level-1, shiftedBy(l, x, y))
			if !ok {
				return impl.Forest{}, nil, false
			}
			f, nine = g, append(nine, n)
		}
	}
	return f, nine, true
}

// plainJoin: JoinQuads of numbers that may be joined.
func plainJoin(f impl.Forest, kids ...int) (impl.Forest, int, bool) {
	for n, q := range f.Quads {
		if slices.Equal(q.Kids, kids) {
			return f, n, true
		}
	}
	f = copyForest(f)
	f.Quads = append(f.Quads, impl.Quad{Level: f.Quads[kids[0]].Level + 1, Kids: kids})
	if len(f.Quads) > impl.MaxNodes {
		return impl.Forest{}, 0, false
	}
	return f, len(f.Quads) - 1, true
}

// plainFour: FourOf of nine that are as said.
func plainFour(f impl.Forest, nine []int) (impl.Forest, []int, bool) {
	var all []int
	for _, i := range [][4]int{{0, 1, 3, 4}, {1, 2, 4, 5}, {3, 4, 6, 7}, {4, 5, 7, 8}} {
		g, n, ok := plainJoin(f, nine[i[0]], nine[i[1]], nine[i[2]], nine[i[3]])
		if !ok {
			return impl.Forest{}, nil, false
		}
		f, all = g, append(all, n)
	}
	return f, all, true
}

// plainEach: ResultOf each, one after the other in one forest.
func plainEach(f impl.Forest, quads []int) (impl.Forest, []int, bool) {
	var all []int
	for _, q := range quads {
		g, n, ok := plainResult(f, q)
		if !ok {
			return impl.Forest{}, nil, false
		}
		f, all = g, append(all, n)
	}
	return f, all, true
}

// plainByNine: ResultByNine by the words of the document.
func plainByNine(f impl.Forest, q int) (impl.Forest, int, bool) {
	if f.Quads[q].Level < 3 {
		return impl.Forest{}, 0, false
	}
	f, quads, ok := plainNine(f, q)
	if ok {
		f, quads, ok = plainEach(f, quads)
	}
	if ok {
		f, quads, ok = plainFour(f, quads)
	}
	if ok {
		f, quads, ok = plainEach(f, quads)
	}
	if !ok {
		return impl.Forest{}, 0, false
	}
	return plainJoin(f, quads...)
}

// plainSafe: SafeIn of steps that are as said.
func plainSafe(l cells, level, steps int) cells {
	return having(plainMany(l, steps), func(c impl.Cell) bool {
		return steps <= min(c.X, c.Y) && max(c.X, c.Y) < 1<<level-steps
	})
}

func pictureOf(l cells, side int) string {
	rows := make([]string, side)
	for y := range rows {
		signs := []byte(strings.Repeat(".", side))
		for _, c := range l {
			if c.Y == y {
				signs[c.X] = '#'
			}
		}
		rows[y] = string(signs)
	}
	return strings.Join(rows, "\n")
}

// plainTable: ResultTable by what the pictures are.
func plainTable(f impl.Forest) []int {
	drawn := pictures(f)
	table := make([]int, len(f.Quads))
	for q := range table {
		table[q] = -1
		if level := f.Quads[q].Level; level >= 2 {
			middle := plainMiddle(cellsOfPicture(drawn[q]), level)
			table[q] = slices.Index(drawn, pictureOf(middle, 1<<level/2))
		}
	}
	return table
}

// wantQuads: fails unless the answer is this forest, these numbers, and that told.
func wantQuads(t *testing.T, what string, f impl.Forest, quads []int, ok bool, want impl.Forest, wantList []int, wantOk bool) {
	t.Helper()
	if ok != wantOk || !slices.Equal(quads, wantList) || !sameForest(f, want) {
		t.Errorf("%s: got %v %v %v, want %v %v %v", what, f, quads, ok, want, wantList, wantOk)
	}
}

func wantNoQuads(t *testing.T, what string, f impl.Forest, quads []int, ok bool) {
	t.Helper()
	wantQuads(t, what, f, quads, ok, impl.Forest{}, nil, false)
}

func wantNumbers(t *testing.T, what string, got []int, ok bool, want []int, wantOk bool) {
	t.Helper()
	if ok != wantOk || !slices.Equal(got, want) {
		t.Errorf("%s: got %v %v, want %v %v", what, got, ok, want, wantOk)
	}
}

// treeIn: a quad of that level with these cells, more than MaxCells too, alone in its forest.
func treeIn(t *testing.T, level int, l cells) (impl.Forest, int) {
	t.Helper()
	f, q, ok := plainTree(forestOf(), level, l)
	if !ok || !impl.GoodForest(f) {
		t.Fatal("no such tree:", level, l)
	}
	return f, q
}

// stripes: every second row of a square.
func stripes(side int) cells {
	var l cells
	for y := 0; y < side; y += 2 {
		l = append(l, row(0, y, side)...)
	}
	return l
}

// fields: cells of a square of that level: thin, thick, still, moving, none, all.
func fields(r *rand.Rand, level int) []cells {
	side := 1 << level
	var full cells
	for y := range side {
		full = append(full, row(0, y, side)...)
	}
	lists := []cells{nil, full, stripes(side), {at(side/2, side/2)}, inSquare(glider, side), inSquare(shifted(glider, side/2-1), side), inSquare(shifted(block, side/4), side)}
	for i := range 6 {
		lists = append(lists, someCells(r, 0, 0, side, side*side/(2+i%4)))
	}
	return lists
}

func TestStepsFor(t *testing.T) {
	for level, want := range map[int]int{2: 1, 3: 2, 4: 4, 5: 8} {
		if n, ok := impl.StepsFor(level); n != want || !ok {
			t.Errorf("level %d: got %d %v, want %d", level, n, ok, want)
		}
	}
	if impl.MaxLevel != 5 {
		t.Fatal("the levels above are not all:", impl.MaxLevel)
	}
	for _, level := range append([]int{0, 1}, wrongLevels...) {
		if n, ok := impl.StepsFor(level); n != 0 || ok {
			t.Errorf("level %d: got %d %v, want nothing", level, n, ok)
		}
	}
}

func TestResultsAreThePlainOnes(t *testing.T) {
	r := rand.New(rand.NewSource(28))
	there, put, none := 0, 0, 0
	for name, f := range byName(goodForests()) {
		for _, q := range quadsTried(r, f) {
			what := fmt.Sprint(name, " ", q, " of Level ", f.Quads[q].Level)
			want, wantQ, wantOk := plainResult(f, q)
			g, k, ok := impl.ResultOf(f, q)
			wantTree(t, what, g, k, ok, want, wantQ, wantOk)
			switch {
			case !ok:
				none++
			case len(g.Quads) == len(f.Quads):
				there++
			default:
				put++
			}
		}
	}
	if there < 100 || put < 100 || none < 100 {
		t.Errorf("the quads try too little: %d %d %d", there, put, none)
	}
}

// Every neighbourhood of each of the four cells in the middle of the least square.
func TestEveryNeighbourhoodInTheMiddle(t *testing.T) {
	for _, c := range (cells{at(1, 1), at(2, 1), at(1, 2), at(2, 2)}) {
		for n := range 512 {
			var l cells
			for i := range 9 {
				if n>>i&1 == 1 {
					l = append(l, at(c.X-1+i%3, c.Y-1+i/3))
				}
			}
			near, was := len(l), n>>4&1 == 1
			if was {
				near--
			}
			f, q, is := impl.TreeOf(impl.NewForest(), 2, l)
			f, q, told := impl.ResultOf(f, q)
			alive, ok := impl.GetCell(f, q, at(c.X-1, c.Y-1))
			wantTold(t, fmt.Sprint("around ", c, l), alive, ok && is && told, near == 3 || near == 2 && was, true)
		}
	}
}

// A block at each place: within the middle, across its edge, just outside, and cut by the square's edge.
func TestABlockAtEveryPlace(t *testing.T) {
	for level := 2; level <= impl.MaxLevel; level++ {
		side := 1 << level
		for y := -1; y < side; y++ {
			for x := -1; x < side; x++ {
				if level == impl.MaxLevel && x%3 != 0 && y%3 != 1 {
					continue
				}
				l := inSquare(shiftedBy(block, -x, -y), side)
				f, q := treeIn(t, level, l)
				g, k, ok := impl.ResultOf(f, q)
				got, told := impl.CellsIn(g, k)
				what := fmt.Sprint("level ", level, at(x, y))
				want := plainMiddle(l, level)
				wantCells(t, what, got, ok && told, want, true)
				if len(l) == 4 {
					wantCells(t, what+" stays", got, ok, inSquare(shiftedBy(l, side/4, side/4), side/2), true)
				}
				n, is := impl.LevelOf(g, k)
				wantTold(t, what+" has one Level less", n == level-1, is, true, true)
			}
		}
	}
}

// A quarter of the side is all that is sure: what is around the square does not come to its middle in so many steps.
func TestWhatIsOutsideMakesNoDifference(t *testing.T) {
	r := rand.New(rand.NewSource(29))
	differ := 0
	for level := 2; level <= impl.MaxLevel; level++ {
		side := 1 << level
		for range 12 {
			l := someCells(r, -4, -4, side+8, (side+8)*(side+8)/3)
			f, q := treeIn(t, level, inSquare(l, side))
			f, q, ok := impl.ResultOf(f, q)
			got, told := impl.CellsIn(f, q)
			wantCells(t, fmt.Sprint("level ", level), got, ok && told, plainMiddle(l, level), true)
			if !slices.Equal(inSquare(plainMany(l, side/4), side), inSquare(plainMany(inSquare(l, side), side/4), side)) {
				differ++
			}
		}
	}
	if differ < 30 {
		t.Errorf("what is outside came into the square %d times", differ)
	}
}

// The limits of chapter 1 are not asked: stripes that are too many cells stay as they are in the middle.
func TestMiddlesBeyondMaxCells(t *testing.T) {
	f, q := treeIn(t, impl.MaxLevel, stripes(32))
	if n, _ := impl.CountOf(f, q); n != 512 {
		t.Fatal(n)
	}
	var want cells
	for y := 0; y < 16; y += 2 {
		want = append(want, row(0, y, 16)...)
	}
	if len(want) <= impl.MaxCells {
		t.Fatal(len(want))
	}
	for name, of := range map[string]func(impl.Forest, int) (impl.Forest, int, bool){"ResultOf": impl.ResultOf, "ResultByNine": impl.ResultByNine} {
		g, k, ok := of(f, q)
		l, told := impl.CellsIn(g, k)
		wantCells(t, name, l, ok && told, want, true)
	}
	for steps := range 9 {
		l, ok := impl.SafeIn(f, q, steps)
		wantCells(t, fmt.Sprint("SafeIn ", steps), l, ok, plainSafe(stripes(32), impl.MaxLevel, steps), true)
		if len(l) <= impl.MaxCells {
			t.Errorf("%d steps leave %d cells alone", steps, len(l))
		}
	}
	g, nine, ok := impl.NineOf(f, q)
	for i, n := range nine {
		l, told := impl.CellsIn(g, n)
		wantCells(t, fmt.Sprint("NineOf ", i), l, ok && told, want, true)
	}
}

// Kids in order, each ahead of what it is a kid of, written out; what was needed on the way is not there.
func TestTheOrderOfAResult(t *testing.T) {
	f, q, ok := impl.TreeOf(impl.NewForest(), 2, cells{at(0, 1), at(1, 1), at(2, 1)})
	before := [][5]int{{1, 0, 0, 1, 1}, {1, 0, 0, 1, 0}, {1, 0, 0, 0, 0}, {2, 2, 3, 4, 4}}
	wantTree(t, "a row of three", f, q, ok, forestOf(before...), 5, true)
	g, k, ok := impl.ResultOf(f, q)
	want := forestOf(append(before, [5]int{1, 1, 0, 1, 0})...)
	wantTree(t, "a row of three, one step on", g, k, ok, want, 6, true)

	f, q, ok = impl.TreeOf(impl.NewForest(), 3, shifted(glider, 2))
	before = [][5]int{{1, 0, 0, 0, 0}, {1, 0, 1, 0, 0}, {2, 2, 2, 2, 3}, {1, 0, 0, 1, 0}, {2, 2, 2, 5, 2},
		{1, 1, 1, 0, 0}, {2, 2, 7, 2, 2}, {1, 1, 0, 0, 0}, {2, 9, 2, 2, 2}, {3, 4, 6, 8, 10}}
	wantTree(t, "a glider", f, q, ok, forestOf(before...), 11, true)
	g, k, ok = impl.ResultOf(f, q)
	l, told := impl.CellsIn(g, k)
	wantCells(t, "a glider, two steps on", l, ok && told, cells{at(2, 1), at(0, 2), at(2, 2), at(1, 3), at(2, 3)}, true)
	want = forestOf(append(before, [5]int{1, 1, 0, 0, 1}, [5]int{1, 1, 0, 1, 0}, [5]int{2, 2, 5, 12, 13})...)
	wantTree(t, "a glider, two steps on", g, k, ok, want, 14, true)
}

func TestResultsThatAreThere(t *testing.T) {
	for level := 2; level <= impl.MaxLevel; level++ {
		for i, l := range fields(rand.New(rand.NewSource(30)), level) {
			f, q := treeIn(t, level, l)
			g, k, ok := impl.ResultOf(f, q)
			h, n, told := impl.ResultOf(g, q)
			wantTree(t, fmt.Sprint("once more ", level, i), h, n, told && ok, g, k, true)
		}
	}
	f := tower(impl.MaxLevel)
	for q := 3; q <= impl.MaxLevel+1; q++ {
		g, k, ok := impl.ResultOf(f, q)
		wantTree(t, fmt.Sprint("blank ", q), g, k, ok, f, q-1, true)
	}
	// No blank quad is put behind all where none is asked for.
	f = forestOf([5]int{1, 0, 1, 0, 1}, [5]int{1, 1, 0, 1, 0}, [5]int{2, 2, 3, 2, 3}, [5]int{1, 1, 1, 1, 1}, [5]int{2, 5, 5, 5, 5})
	g, k, ok := impl.ResultOf(f, 4)
	want := copyForest(f)
	want.Quads = append(want.Quads, impl.Quad{Level: 1, Kids: []int{0, 0, 0, 0}})
	wantTree(t, "all die", g, k, ok, want, 7, true)
	f = forestOf([5]int{1, 0, 0, 0, 1}, [5]int{1, 0, 0, 1, 0}, [5]int{1, 0, 1, 0, 0}, [5]int{1, 1, 0, 0, 0}, [5]int{1, 1, 1, 1, 1}, [5]int{2, 2, 3, 4, 5})
	g, k, ok = impl.ResultOf(f, 7)
	wantTree(t, "a block stays", g, k, ok, f, 6, true)
}

func TestLevelsOfResults(t *testing.T) {
	for _, full := range []int{0, 1} {
		f, q := impl.NewForest(), full
		for level := 0; level <= impl.MaxLevel; level++ {
			if level > 0 {
				f, q, _ = impl.JoinQuads(f, []int{q, q, q, q})
			}
			what := fmt.Sprint(full, " of Level ", level)
			g, k, ok := impl.ResultOf(f, q)
			if level < 2 {
				wantNoTree(t, "ResultOf "+what, g, k, ok)
			}
			wantTold(t, "ResultOf "+what, ok, ok, level >= 2, level >= 2)
			g, nine, ok := impl.NineOf(f, q)
			if level < 2 {
				wantNoQuads(t, "NineOf "+what, g, nine, ok)
			}
			wantTold(t, "NineOf "+what, ok, ok, level >= 2, level >= 2)
			g, k, ok = impl.ResultByNine(f, q)
			if level < 3 {
				wantNoTree(t, "ResultByNine "+what, g, k, ok)
			}
			wantTold(t, "ResultByNine "+what, ok, ok, level >= 3, level >= 3)
			g, kids, ok := impl.FourOf(f, slices.Repeat([]int{q}, 9))
			if level == impl.MaxLevel {
				wantNoQuads(t, "FourOf "+what, g, kids, ok)
			}
			wantTold(t, "FourOf "+what, ok, ok, level < impl.MaxLevel, level < impl.MaxLevel)
			l, ok := impl.SafeIn(f, q, 0)
			if level < 2 {
				wantCells(t, "SafeIn "+what, l, ok, nil, false)
			}
			wantTold(t, "SafeIn "+what, ok, ok, level >= 2, level >= 2)
		}
	}
}

func TestNineArePlainOnes(t *testing.T) {
	r := rand.New(rand.NewSource(31))
	put, none := 0, 0
	for name, f := range byName(goodForests()) {
		for _, q := range quadsTried(r, f) {
			what := fmt.Sprint(name, " ", q, " of Level ", f.Quads[q].Level)
			want, wantList, wantOk := plainNine(f, q)
			g, nine, ok := impl.NineOf(f, q)
			wantQuads(t, what, g, nine, ok, want, wantList, wantOk)
			if !ok {
				none++
			} else if len(g.Quads) > len(f.Quads) {
				put++
			}
		}
	}
	if put < 100 || none < 100 {
		t.Errorf("the quads try too little: %d %d", put, none)
	}
}

// Where the nine stand, row by row, one cell at each place of the square.
func TestNineOfEveryCell(t *testing.T) {
	for level := 2; level <= impl.MaxLevel; level++ {
		side, quarter := 1<<level, 1<<level/4
		for y := range side {
			for x := range side {
				if side == 32 && x%3 != 0 && y%5 != 0 {
					continue
				}
				f, q := treeIn(t, level, cells{at(x, y)})
				g, nine, ok := impl.NineOf(f, q)
				if !ok || len(nine) != 9 {
					t.Fatal(level, at(x, y), nine, ok)
				}
				for i, n := range nine {
					l, told := impl.CellsIn(g, n)
					want := inSquare(cells{at(x-i%3*quarter, y-i/3*quarter)}, side/2)
					wantCells(t, fmt.Sprint("level ", level, at(x, y), " square ", i), l, told, want, true)
				}
				_, k, told := impl.CentreOf(g, q)
				wantTold(t, "the middle one is that of chapter 4", nine[4] == k, told, true, true)
				wantNumbers(t, "those at the corners are the kids", []int{nine[0], nine[2], nine[6], nine[8]}, ok, g.Quads[q].Kids, true)
			}
		}
	}
}

func TestTheOrderOfNine(t *testing.T) {
	// The rows are "#.##", "....", ".#..", "..#.".
	f := forestOf([5]int{1, 1, 0, 0, 0}, [5]int{1, 1, 1, 0, 0}, [5]int{1, 0, 1, 0, 0}, [5]int{1, 0, 0, 1, 0}, [5]int{2, 2, 3, 4, 5})
	want := forestOf([5]int{1, 1, 0, 0, 0}, [5]int{1, 1, 1, 0, 0}, [5]int{1, 0, 1, 0, 0}, [5]int{1, 0, 0, 1, 0}, [5]int{2, 2, 3, 4, 5},
		[5]int{1, 0, 0, 0, 1}, [5]int{1, 0, 0, 0, 0}, [5]int{1, 1, 0, 0, 1})
	g, nine, ok := impl.NineOf(f, 6)
	wantQuads(t, "Level 2", g, nine, ok, want, []int{2, 4, 3, 7, 5, 8, 4, 9, 5}, true)
	f = tower(impl.MaxLevel)
	g, nine, ok = impl.NineOf(f, impl.MaxLevel+1)
	wantQuads(t, "blank", g, nine, ok, f, slices.Repeat([]int{impl.MaxLevel}, 9), true)
}

// ninesTried: lists of nine quads of one Level, by chance, of one quad alone, and of quads that nine squares may be.
func ninesTried(r *rand.Rand, f impl.Forest) [][]int {
	var all [][]int
	for level := range impl.MaxLevel {
		var may []int
		for n, q := range f.Quads {
			if q.Level == level {
				may = append(may, n)
			}
		}
		if len(may) == 0 {
			continue
		}
		all = append(all, slices.Repeat(may[len(may)-1:], 9))
		for range 6 {
			nine := make([]int, 9)
			for i := range nine {
				nine[i] = may[r.Intn(len(may))]
			}
			all = append(all, nine)
		}
	}
	return all
}

func TestFourArePlainOnes(t *testing.T) {
	r := rand.New(rand.NewSource(32))
	put, there, none := 0, 0, 0
	for name, f := range byName(goodForests()) {
		for _, nine := range ninesTried(r, f) {
			want, wantList, wantOk := plainFour(f, nine)
			g, kids, ok := impl.FourOf(f, nine)
			what := fmt.Sprint(name, " ", nine)
			wantQuads(t, what, g, kids, ok, want, wantList, wantOk)
			if !ok {
				none++
				continue
			}
			put += min(1, len(g.Quads)-len(f.Quads))
			again, more, ok := impl.FourOf(g, nine)
			wantQuads(t, what+" once more", again, more, ok, g, kids, true)
			there++
		}
	}
	if put < 200 || there < 200 || none < 5 {
		t.Errorf("the lists try too little: %d %d %d", put, there, none)
	}
}

func TestTheOrderOfFour(t *testing.T) {
	g, kids, ok := impl.FourOf(impl.NewForest(), []int{1, 0, 0, 0, 1, 1, 1, 0, 0})
	want := forestOf([5]int{1, 1, 0, 0, 1}, [5]int{1, 0, 0, 1, 1}, [5]int{1, 0, 1, 1, 0}, [5]int{1, 1, 1, 0, 0})
	wantQuads(t, "of Level 0", g, kids, ok, want, []int{2, 3, 4, 5}, true)
	g, kids, ok = impl.FourOf(g, []int{2, 3, 2, 3, 2, 3, 4, 4, 5})
	want = forestOf([5]int{1, 1, 0, 0, 1}, [5]int{1, 0, 0, 1, 1}, [5]int{1, 0, 1, 1, 0}, [5]int{1, 1, 1, 0, 0},
		[5]int{2, 2, 3, 3, 2}, [5]int{2, 3, 2, 2, 3}, [5]int{2, 3, 2, 4, 4}, [5]int{2, 2, 3, 4, 5})
	wantQuads(t, "of Level 1", g, kids, ok, want, []int{6, 7, 8, 9}, true)
}

func TestFourOfWrongLists(t *testing.T) {
	f := tower(impl.MaxLevel)
	top, n := impl.MaxLevel+1, len(f.Quads)
	lists := [][]int{nil, {}, {0}, {0, 0, 0, 0}, slices.Repeat([]int{1}, 8), slices.Repeat([]int{1}, 10), slices.Repeat([]int{1}, 16), slices.Repeat([]int{2}, 8), slices.Repeat([]int{top}, 9), make([]int, 100000)}
	for i := range 9 {
		for _, p := range [][2]int{{0, 2}, {2, 0}, {2, 3}, {3, 2}, {1, top}, {top, 1}, {top - 1, top}, {top, top - 1}} {
			nine := slices.Repeat(p[:1], 9)
			nine[i] = p[1]
			lists = append(lists, nine)
		}
		for _, k := range append(wrongNumbers(n), n+2, n+3, n+4) {
			for _, others := range []int{0, 1, 2, top} {
				nine := slices.Repeat([]int{others}, 9)
				nine[i] = k
				lists = append(lists, nine)
			}
		}
	}
	for _, nine := range lists {
		g, kids, ok := impl.FourOf(f, nine)
		wantNoQuads(t, fmt.Sprint(len(nine), nine[:min(9, len(nine))]), g, kids, ok)
	}
}

// A number that the first of the four would make good is out of the forest all the same.
func TestFourOfANumberThatIsMadeOnTheWay(t *testing.T) {
	f := forestOf([5]int{1, 1, 0, 0, 0})
	for i := range 9 {
		for _, k := range []int{3, 4, 5, 6} {
			nine := []int{2, 2, 2, 2, 2, 2, 2, 2, 2}
			nine[i] = k
			g, kids, ok := impl.FourOf(f, nine)
			wantNoQuads(t, fmt.Sprint(nine), g, kids, ok)
		}
	}
	g, kids, ok := impl.FourOf(impl.NewForest(), []int{1, 1, 0, 1, 1, 0, 0, 0, 2})
	wantNoQuads(t, "Level 0, then one of Level 1", g, kids, ok)
}

func TestResultsByNineAreThePlainOnes(t *testing.T) {
	r := rand.New(rand.NewSource(33))
	put, there, none := 0, 0, 0
	for name, f := range byName(goodForests()) {
		for _, q := range quadsTried(r, f) {
			what := fmt.Sprint(name, " ", q, " of Level ", f.Quads[q].Level)
			want, wantQ, wantOk := plainByNine(f, q)
			g, k, ok := impl.ResultByNine(f, q)
			wantTree(t, what, g, k, ok, want, wantQ, wantOk)
			if !ok {
				none++
				continue
			}
			put += min(1, len(g.Quads)-len(f.Quads))
			again, n, ok := impl.ResultByNine(g, q)
			wantTree(t, what+" once more", again, n, ok, g, k, true)
			there++
		}
	}
	if put < 50 || there < 100 || none < 100 {
		t.Errorf("the quads try too little: %d %d %d", put, there, none)
	}
}

// byTheCalls: ResultByNine by the calls that the document names.
func byTheCalls(f impl.Forest, q int) (impl.Forest, int, bool) {
	f, nine, ok := impl.NineOf(f, q)
	for i, n := range nine {
		is := false
		f, nine[i], is = impl.ResultOf(f, n)
		ok = ok && is
	}
	f, kids, told := impl.FourOf(f, nine)
	ok = ok && told
	for i, n := range kids {
		is := false
		f, kids[i], is = impl.ResultOf(f, n)
		ok = ok && is
	}
	f, k, told := impl.JoinQuads(f, kids)
	return f, k, ok && told
}

// Promise 5: what comes of the middle is put together from nine smaller squares, twice over.
func TestTheMiddleIsPutTogetherFromNine(t *testing.T) {
	r := rand.New(rand.NewSource(34))
	told := 0
	for level := 3; level <= impl.MaxLevel; level++ {
		lists := fields(r, level)
		for range 10 {
			lists = append(lists, someCells(r, 1<<level/4, 1<<level/4, 1<<level/2, 3<<level))
		}
		for i, l := range lists {
			what := fmt.Sprint("level ", level, " field ", i)
			f, q := treeIn(t, level, l)
			want := plainMiddle(l, level)
			g, k, ok := impl.ResultOf(f, q)
			got, is := impl.CellsIn(g, k)
			wantCells(t, what, got, ok && is, want, true)
			h, n, ok := impl.ResultByNine(f, q)
			if !ok {
				wantNoTree(t, what, h, n, ok)
				continue
			}
			told++
			got, is = impl.CellsIn(h, n)
			wantCells(t, what+" by nine", got, is, want, true)
			a, m, ok := byTheCalls(f, q)
			wantTree(t, what+" by the calls", h, n, true, a, m, ok)
			b, m, ok := impl.ResultOf(h, q)
			wantTree(t, what+" is the one that is there", b, m, ok, h, n, true)
			c, m, ok := impl.ResultByNine(g, q)
			wantTold(t, what+" by nine is the one that ResultOf made", m == k && len(c.Quads) == len(h.Quads), ok, true, true)
		}
	}
	if told < 45 {
		t.Errorf("the fields try too little: %d", told)
	}
}

func TestSafeInIsThePlainOne(t *testing.T) {
	r := rand.New(rand.NewSource(35))
	some := 0
	for level := 2; level <= impl.MaxLevel; level++ {
		for i, l := range fields(r, level) {
			f, q := treeIn(t, level, l)
			for steps := 0; steps <= 1<<level/4; steps++ {
				got, ok := impl.SafeIn(f, q, steps)
				wantCells(t, fmt.Sprint("level ", level, " field ", i, " steps ", steps), got, ok, plainSafe(l, level, steps), true)
				some += min(1, len(got))
			}
			for _, steps := range []int{-1, 1<<level/4 + 1, 1 << level, 1 << 32, math.MinInt, math.MaxInt} {
				got, ok := impl.SafeIn(f, q, steps)
				wantCells(t, fmt.Sprint("level ", level, " steps ", steps), got, ok, nil, false)
			}
		}
	}
	if some < 100 {
		t.Errorf("the fields try too little: %d", some)
	}
}

func TestSafeInOfGoodForests(t *testing.T) {
	r := rand.New(rand.NewSource(36))
	for name, f := range byName(goodForests()) {
		drawn := pictures(f)
		for _, q := range quadsTried(r, f) {
			level := f.Quads[q].Level
			for _, steps := range []int{-1, 0, 1, 2, 4, 8, 9} {
				var want cells
				may := level >= 2 && 0 <= steps && steps <= 1<<level/4
				if may {
					want = plainSafe(cellsOfPicture(drawn[q]), level, steps)
				}
				got, ok := impl.SafeIn(f, q, steps)
				wantCells(t, fmt.Sprint(name, " ", q, " steps ", steps), got, ok, want, may)
			}
		}
	}
}

// A block stays: its cells are safe just where they are as far from the edge as there are steps.
func TestSafeAsFarAsThereAreSteps(t *testing.T) {
	for level := 2; level <= impl.MaxLevel; level++ {
		side := 1 << level
		for steps := 0; steps <= side/4; steps++ {
			for from := range side - 1 {
				l := shifted(block, from)
				f, q := treeIn(t, level, l)
				want := having(l, func(c impl.Cell) bool {
					return steps <= c.X && c.X <= side-1-steps && steps <= c.Y && c.Y <= side-1-steps
				})
				got, ok := impl.SafeIn(f, q, steps)
				wantCells(t, fmt.Sprint("level ", level, " block ", from, " steps ", steps), got, ok, want, true)
			}
		}
	}
}

// What is safe for as many steps as there may be is the result, where that is in the square.
func TestTheSafeOnesAreTheResult(t *testing.T) {
	r := rand.New(rand.NewSource(37))
	for level := 2; level <= impl.MaxLevel; level++ {
		steps, _ := impl.StepsFor(level)
		for i, l := range fields(r, level) {
			f, q := treeIn(t, level, l)
			g, k, ok := impl.ResultOf(f, q)
			want, is := impl.CellsIn(g, k)
			got, told := impl.SafeIn(f, q, steps)
			wantCells(t, fmt.Sprint("level ", level, " field ", i), got, told, shifted(want, steps), ok && is)
		}
	}
}

func TestTablesAreThePlainOnes(t *testing.T) {
	there, none := 0, 0
	for name, f := range byName(goodForests()) {
		want := plainTable(f)
		got, ok := impl.ResultTable(f)
		wantNumbers(t, name, got, ok, want, true)
		for q, n := range want {
			if n >= 0 {
				there++
			} else if f.Quads[q].Level >= 2 {
				none++
			}
		}
	}
	if there < 100 || none < 100 {
		t.Errorf("the forests try too little: %d %d", there, none)
	}
}

// The table tells just what ResultOf would, of each quad by itself.
func TestTheTableIsWhatResultOfTells(t *testing.T) {
	for name, f := range byName(goodForests()) {
		if len(f.Quads) > 100 {
			continue
		}
		table, ok := impl.ResultTable(f)
		if !ok || len(table) != len(f.Quads) {
			t.Fatal(name, table, ok)
		}
		for q, n := range table {
			g, k, told := impl.ResultOf(f, q)
			want := -1
			if told && len(g.Quads) == len(f.Quads) {
				want = k
			}
			if n != want {
				t.Errorf("%s %d: the table has %d, want %d", name, q, n, want)
			}
		}
	}
}

func TestTablesWrittenOut(t *testing.T) {
	blank, column, full := [5]int{1, 0, 0, 0, 0}, [5]int{1, 1, 0, 1, 0}, [5]int{1, 1, 1, 1, 1}
	for want, f := range byName(map[string]impl.Forest{
		"-1 -1":                   forestOf(),
		"-1 -1 -1 2 3 4 5 -1":     tower(impl.MaxLevel),
		"-1 -1 -1 -1":             forestOf(full, [5]int{2, 2, 2, 2, 2}),
		"-1 -1 -1 -1 3":           forestOf(full, blank, [5]int{2, 2, 2, 2, 2}),
		"-1 -1 -1 2 -1":           forestOf(blank, [5]int{2, 2, 2, 2, 2}, full),
		"-1 -1 -1 -1 -1 3 2":      forestOf(blank, column, [5]int{2, 2, 3, 2, 3}, [5]int{2, 2, 3, 3, 2}, [5]int{2, 2, 2, 2, 3}),
		"-1 -1 -1 -1 5 -1 3 2":    forestOf(blank, column, [5]int{2, 2, 3, 2, 3}, full, [5]int{2, 2, 3, 3, 2}, [5]int{2, 2, 2, 2, 3}),
		"-1 -1 -1 -1 5 -1 2 8 -1": forestOf(blank, full, [5]int{2, 2, 2, 2, 3}, [5]int{1, 0, 0, 0, 1}, [5]int{2, 2, 2, 2, 5}, [5]int{3, 4, 4, 4, 4}, [5]int{2, 3, 2, 2, 2}),
	}) {
		table, ok := impl.ResultTable(f)
		if got := strings.Trim(fmt.Sprint(table), "[]"); got != want || !ok {
			t.Errorf("got %s %v, want %s", got, ok, want)
		}
	}
}

func TestATableOfMaxNodes(t *testing.T) {
	f := manyQuads(impl.MaxNodes)
	table, ok := impl.ResultTable(f)
	wantNumbers(t, "all of Level 1, many of Level 2", table, ok, plainTable(f), true)
	there := 0
	for _, n := range table[18:] {
		there += min(1, n+1)
	}
	if there != impl.MaxNodes-18 {
		t.Errorf("%d results are there", there)
	}
	f, _, _ = roomFor(t, impl.MaxNodes, stripes(16)[:100], nil)
	table, ok = impl.ResultTable(f)
	wantNumbers(t, "of all levels", table, ok, plainTable(f), true)
}

// filledUp: forests one quad greater each, up to MaxNodes, with a quad of MaxLevel of which much comes, and that.
func filledUp(t *testing.T, from int) ([]impl.Forest, int) {
	t.Helper()
	l := someCells(rand.New(rand.NewSource(38)), 8, 8, 16, 60)
	f, q, ok := impl.TreeOf(manyQuads(18), impl.MaxLevel, l)
	if !ok || len(f.Quads) > from {
		t.Fatal("no such forest:", from, ok)
	}
	var all []impl.Forest
	for _, quad := range manyQuads(impl.MaxNodes + 100).Quads[18:] {
		g, n, ok := plainJoin(f, quad.Kids...)
		if !ok {
			break
		}
		if n == len(f.Quads) && n >= from {
			all = append(all, g)
		}
		f = g
	}
	return all, q
}

// What needs just the room there is is made; with one quad less of room nothing is told.
func TestResultsAtMaxNodes(t *testing.T) {
	calls := resultCalls()
	plain := map[string]func(f impl.Forest, q int) (impl.Forest, []int, bool){
		"ResultOf":     asList(plainResult),
		"NineOf":       plainNine,
		"ResultByNine": asList(plainByNine),
		"FourOf": func(f impl.Forest, q int) (impl.Forest, []int, bool) {
			return plainFour(f, nineOfQuads(f))
		},
	}
	just, over := map[string]int{}, map[string]int{}
	forests, q := filledUp(t, 150)
	for _, f := range forests {
		for call, do := range calls {
			g, quads, ok := do(f, q)
			what := fmt.Sprint(call, " quads ", len(f.Quads))
			if !ok {
				over[call]++
				wantNoQuads(t, what, g, quads, ok)
			}
			if len(g.Quads) == impl.MaxNodes {
				just[call]++
			}
			if over[call] <= 3 && (!ok || len(g.Quads) > impl.MaxNodes-3) {
				want, wantList, wantOk := plain[call](f, q)
				wantQuads(t, what, g, quads, ok, want, wantList, wantOk)
			}
		}
	}
	for what := range calls {
		if just[what] != 1 || over[what] == 0 {
			t.Errorf("%s: made with just the room there is %d times, refused %d times", what, just[what], over[what])
		}
	}
}

// A full forest tells what is there as ever, and what asks for no new quad.
func TestResultsThatAreThereAtMaxNodes(t *testing.T) {
	forests, q := filledUp(t, impl.MaxNodes-1)
	f := forests[len(forests)-1]
	if len(f.Quads) != impl.MaxNodes {
		t.Fatal(len(f.Quads))
	}
	g, k, ok := impl.ResultOf(f, q)
	wantNoTree(t, "what is not there", g, k, ok)
	for n := 18; n < impl.MaxNodes; n++ {
		if n%4 == 3 && f.Quads[n].Level == 2 {
			want, wantQ, _ := plainResult(f, n)
			g, k, ok := impl.ResultOf(f, n)
			wantTree(t, fmt.Sprint("ResultOf ", n), g, k, ok, want, wantQ, true)
			g, nine, ok := impl.NineOf(f, n)
			want, wantList, _ := plainNine(f, n)
			wantQuads(t, fmt.Sprint("NineOf ", n), g, nine, ok, want, wantList, true)
		}
	}
	g, kids, ok := impl.FourOf(f, []int{1, 0, 0, 0, 1, 1, 1, 0, 0})
	want, wantList, _ := plainFour(f, []int{1, 0, 0, 0, 1, 1, 1, 0, 0})
	wantQuads(t, "FourOf Level 0", g, kids, ok, want, wantList, true)
	for steps := range 9 {
		l, ok := impl.SafeIn(f, q, steps)
		wantCells(t, fmt.Sprint("SafeIn ", steps), l, ok, plainSafe(cellsOfPicture(pictures(f)[q]), impl.MaxLevel, steps), true)
	}
}

// asList: a call that tells one number, as one that tells a list.
func asList(do func(impl.Forest, int) (impl.Forest, int, bool)) func(impl.Forest, int) (impl.Forest, []int, bool) {
	return func(f impl.Forest, q int) (impl.Forest, []int, bool) {
		g, k, ok := do(f, q)
		if !ok && k == 0 {
			return g, nil, false
		}
		return g, []int{k}, ok
	}
}

// nineOfQuads: nine quads of Level 2, or of the last one's Level where that is less, from the last one on, as far as there are so many.
func nineOfQuads(f impl.Forest) []int {
	var nine []int
	for n := len(f.Quads) - 1; n >= 0 && len(nine) < 9; n-- {
		if f.Quads[n].Level == min(2, f.Quads[len(f.Quads)-1].Level) {
			nine = append(nine, n)
		}
	}
	return nine
}

// fourOfQuads: FourOf as a call of a quad; where the quad is out of the forest it is among the nine.
func fourOfQuads(f impl.Forest, q int) (impl.Forest, []int, bool) {
	nine := nineOfQuads(f)
	if len(nine) > 0 && (q < 0 || q >= len(f.Quads)) {
		nine[len(nine)-1] = q
	}
	return impl.FourOf(f, nine)
}

// resultCalls: all calls of chapter 5 that tell a forest, each of q.
func resultCalls() map[string]func(f impl.Forest, q int) (impl.Forest, []int, bool) {
	return map[string]func(f impl.Forest, q int) (impl.Forest, []int, bool){
		"ResultOf":     asList(impl.ResultOf),
		"NineOf":       impl.NineOf,
		"ResultByNine": asList(impl.ResultByNine),
		"FourOf":       fourOfQuads,
	}
}

// wantNothing: fails unless all of chapter 5 tells the zero answer of this quad, and of this forest where it is bad.
func wantNothing(t *testing.T, what string, f impl.Forest, q int) {
	t.Helper()
	for call, do := range resultCalls() {
		g, quads, ok := do(f, q)
		wantNoQuads(t, fmt.Sprint(call, " ", what), g, quads, ok)
	}
	for steps := range 3 {
		l, ok := impl.SafeIn(f, q, steps)
		wantCells(t, fmt.Sprint("SafeIn ", what, " ", steps), l, ok, nil, false)
	}
}

func TestResultsOfBadForests(t *testing.T) {
	for name, f := range byName(badForests()) {
		for _, q := range []int{-1, 0, 1, 2, 3, len(f.Quads) - 1, len(f.Quads)} {
			wantNothing(t, fmt.Sprint(name, " ", q), f, q)
		}
		for n := range 4 {
			g, kids, ok := impl.FourOf(f, slices.Repeat([]int{n}, 9))
			wantNoQuads(t, fmt.Sprint("FourOf ", name, n), g, kids, ok)
		}
		table, ok := impl.ResultTable(f)
		wantNumbers(t, name, table, ok, nil, false)
	}
}

func TestResultsOfNumbersOutOfTheForest(t *testing.T) {
	for name, f := range byName(goodForests()) {
		for _, q := range wrongNumbers(len(f.Quads)) {
			if 0 <= q && q < len(f.Quads) {
				continue
			}
			wantNothing(t, fmt.Sprint(name, " ", q), f, q)
		}
	}
}

func TestResultsWriteIntoNothingAndShareNothing(t *testing.T) {
	r := rand.New(rand.NewSource(39))
	for name, f := range byName(smallForests()) {
		given, whole := guardedForest(f)
		before := written(whole)
		for _, q := range append(quadsTried(r, f), -1, len(f.Quads), len(f.Quads)+2) {
			for call, do := range resultCalls() {
				what := fmt.Sprint(call, " ", name, " ", q)
				g, quads, ok := do(given, q)
				want, wantList, wantOk := do(copyForest(f), q)
				wantQuads(t, what+": what lies behind is read", g, quads, ok, want, wantList, wantOk)
				wantApart(t, what, slices.Concat(spansOf(g.Quads), spansOf(want.Quads), spansOf(whole), []span{spanOf(quads), spanOf(wantList)}))
			}
			for _, steps := range []int{0, 1, 3} {
				l, ok := impl.SafeIn(given, q, steps)
				want, wantOk := impl.SafeIn(copyForest(f), q, steps)
				wantCells(t, fmt.Sprint("SafeIn ", name, " ", q), l, ok, want, wantOk)
				wantApart(t, "SafeIn "+name, append(spansOf(whole), spanOf(l), spanOf(want)))
			}
		}
		table, ok := impl.ResultTable(given)
		want, wantOk := impl.ResultTable(copyForest(f))
		wantNumbers(t, "ResultTable "+name, table, ok, want, wantOk)
		wantApart(t, "ResultTable "+name, append(spansOf(whole), spanOf(table), spanOf(want)))
		if written(whole) != before {
			t.Fatalf("%s: the argument's memory is written", name)
		}
	}
}

// The list of nine is not written into, nor told, nor read beyond its length.
func TestFourWritesIntoNoNine(t *testing.T) {
	f := tower(impl.MaxLevel)
	for _, whole := range [][]int{
		{0, 1, 1, 0, 1, 0, 0, 1, 1, 7001}, {2, 2, 2, 2, 2, 7, 7, 7, 2, 2, 2}, {2, 2, 2, 2, 2, 2, 2, 2, 3, 3}, slices.Repeat([]int{5}, 12),
	} {
		for long := range len(whole) + 1 {
			before := slices.Clone(whole)
			nine := whole[:long]
			g, kids, ok := impl.FourOf(f, nine)
			want, wantList, wantOk := impl.FourOf(f, slices.Clone(nine))
			wantQuads(t, fmt.Sprint("what lies behind is read: ", whole, long), g, kids, ok, want, wantList, wantOk)
			wantTold(t, fmt.Sprint(whole, long), ok, ok, long == 9 && whole[8] != 3, long == 9 && whole[8] != 3)
			wantApart(t, "FourOf", append(spansOf(g.Quads), spanOf(kids), spanOf(whole)))
			if !slices.Equal(whole, before) {
				t.Fatal("the argument's memory is written:", whole, before)
			}
		}
	}
}

// An answer that is written over changes neither the forest it came from nor the next answer.
func TestResultsThatAreSpoilt(t *testing.T) {
	f, _ := treeIn(t, 4, someCells(rand.New(rand.NewSource(40)), 0, 0, 16, 70))
	before := copyForest(f)
	for call, do := range resultCalls() {
		for q := range f.Quads {
			g, quads, ok := do(f, q)
			kept, keptList := copyForest(g), slices.Clone(quads)
			for i := range g.Quads {
				clear(g.Quads[i].Kids[:cap(g.Quads[i].Kids)])
			}
			clear(g.Quads[:cap(g.Quads)])
			clear(quads[:cap(quads)])
			h, again, told := do(f, q)
			wantQuads(t, fmt.Sprint(call, " ", q), h, again, told, kept, keptList, ok)
			table, _ := impl.ResultTable(f)
			clear(table[:cap(table)])
			if !sameForest(f, before) {
				t.Fatalf("%s %d: the argument's memory is the answer's", call, q)
			}
		}
	}
	for q := range f.Quads {
		l, ok := impl.SafeIn(f, q, 0)
		kept := slices.Clone(l)
		spoil(l)
		again, told := impl.SafeIn(f, q, 0)
		wantCells(t, fmt.Sprint("SafeIn ", q), again, told, kept, ok)
	}
}

// A function that leant on the order of a map, or kept something from call to call, would tell others now and then.
func TestTheSameResultAgain(t *testing.T) {
	f, q := treeIn(t, impl.MaxLevel, someCells(rand.New(rand.NewSource(41)), 0, 0, 32, 300))
	other, blank := treeIn(t, impl.MaxLevel, nil)
	for call, do := range resultCalls() {
		g, quads, ok := do(f, q)
		for range 10 {
			do(other, blank)
			h, again, told := do(f, q)
			wantQuads(t, call+" once more", h, again, told, g, quads, ok)
		}
	}
	table, ok := impl.ResultTable(f)
	for range 10 {
		again, told := impl.ResultTable(f)
		wantNumbers(t, "ResultTable once more", again, told, table, ok)
	}
}
