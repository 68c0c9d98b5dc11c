package tests

import (
	"fmt"
	"maps"
	"math"
	"math/rand"
	"slices"
	"testing"

	"loop.example/g00613/impl"
)

const (
	manyWays = 8
	mostSide = 3
)

var (
	wrongWays = []int{-1, -2, -3, -4, -5, -8, manyWays, manyWays + 1, 12, 15, 16, 100, 1 << 32, 1<<32 + 1, math.MinInt, math.MinInt + 1, math.MaxInt}
	allWays   = []int{0, 1, 2, 3, 4, 5, 6, 7}
)

// byTheMaps: a way of a cell by the two maps of the document, made one behind the other.
func byTheMaps(c impl.Cell, way int) impl.Cell {
	if way >= 4 {
		c = at(-c.X, c.Y)
	}
	for range way % 4 {
		c = at(-c.Y, c.X)
	}
	return c
}

// wayMaps: what each way makes of a cell, written out.
func wayMaps() []func(x, y int) impl.Cell {
	return []func(x, y int) impl.Cell{
		func(x, y int) impl.Cell { return at(x, y) },
		func(x, y int) impl.Cell { return at(-y, x) },
		func(x, y int) impl.Cell { return at(-x, -y) },
		func(x, y int) impl.Cell { return at(y, -x) },
		func(x, y int) impl.Cell { return at(-x, y) },
		func(x, y int) impl.Cell { return at(-y, -x) },
		func(x, y int) impl.Cell { return at(x, -y) },
		func(x, y int) impl.Cell { return at(y, x) },
	}
}

// thenWays: the way that is one (the row) and then another (the column), written out.
var thenWays = [manyWays][manyWays]int{
	{0, 1, 2, 3, 4, 5, 6, 7},
	{1, 2, 3, 0, 7, 4, 5, 6},
	{2, 3, 0, 1, 6, 7, 4, 5},
	{3, 0, 1, 2, 5, 6, 7, 4},
	{4, 5, 6, 7, 0, 1, 2, 3},
	{5, 6, 7, 4, 3, 0, 1, 2},
	{6, 7, 4, 5, 2, 3, 0, 1},
	{7, 4, 5, 6, 1, 2, 3, 0},
}

var backWays = [manyWays]int{0, 3, 2, 1, 4, 5, 6, 7}

// keepers: all lists of ways that may be the ones that keep cells.
var keepers = [][]int{
	allWays, {0, 1, 2, 3}, {0, 2, 4, 6}, {0, 2, 5, 7}, {0, 2}, {0, 4}, {0, 5}, {0, 6}, {0, 7}, {0},
}

func plainTurn(l cells, way int) cells {
	return sortCells(eachTurned(l, wayMaps()[way]))
}

// isLess: whether the first unlike cell of a comes ahead of that of b, or a ends there.
func isLess(a, b cells) bool {
	for i := range min(len(a), len(b)) {
		if a[i].Y != b[i].Y {
			return a[i].Y < b[i].Y
		}
		if a[i].X != b[i].X {
			return a[i].X < b[i].X
		}
	}
	return len(a) < len(b)
}

// plainForms: the form of the cells turned in each way, or that there is none.
func plainForms(l cells) ([]cells, bool) {
	var forms []cells
	for way := range manyWays {
		form, _ := plainHome(plainTurn(l, way))
		if !plainGood(form) {
			return nil, false
		}
		forms = append(forms, form)
	}
	return forms, true
}

// plainTurns: the unlike ones of these, each put where it belongs.
func plainTurns(forms []cells) []cells {
	var turns []cells
	for _, form := range forms {
		i := 0
		for i < len(turns) && isLess(turns[i], form) {
			i++
		}
		if i == len(turns) || isLess(form, turns[i]) {
			turns = slices.Insert(turns, i, form)
		}
	}
	return turns
}

func plainFixed(forms []cells) []int {
	var ways []int
	for way, form := range forms {
		if slices.Equal(form, forms[0]) {
			ways = append(ways, way)
		}
	}
	return ways
}

// wantForms: fails unless LeastTurn, TurnsOf and FixedBy tell these.
func wantForms(t *testing.T, what string, l cells, turns []cells, ways []int) {
	t.Helper()
	least, ok := impl.LeastTurn(l)
	wantCells(t, "LeastTurn "+what, least, ok, turns[0], true)
	got, ok := impl.TurnsOf(l)
	wantLists(t, "TurnsOf "+what, got, ok, turns, true)
	fixed, ok := impl.FixedBy(l)
	wantNumbers(t, "FixedBy "+what, fixed, ok, ways, true)
}

func wantNoForms(t *testing.T, what string, l cells) {
	t.Helper()
	least, ok := impl.LeastTurn(l)
	wantCells(t, "LeastTurn "+what, least, ok, nil, false)
	got, ok := impl.TurnsOf(l)
	wantLists(t, "TurnsOf "+what, got, ok, nil, false)
	fixed, ok := impl.FixedBy(l)
	wantNumbers(t, "FixedBy "+what, fixed, ok, nil, false)
}

// keptTried: cells that are kept by the ways of each of the keepers, at some places.
func keptTried() []cells {
	r := rand.New(rand.NewSource(51))
	var lists []cells
	for i := range 30 * len(keepers) {
		some := someCells(r, -r.Intn(9), -r.Intn(9), 2+r.Intn(12), 1+r.Intn(13))
		var l cells
		for _, way := range keepers[i%len(keepers)] {
			l = beside(l, plainTurn(some, way))
		}
		lists = append(lists, fits(r, l)[1+i%6])
	}
	return lists
}

func turnsTried() []cells {
	return slices.Concat(keptTried(), sparseLists())
}

func TestTurnCellsIsThePlainOne(t *testing.T) {
	for i, l := range turnsTried() {
		for way := range manyWays {
			var want cells
			for _, c := range l {
				want = append(want, byTheMaps(c, way))
			}
			got, ok := impl.TurnCells(l, way)
			wantCells(t, fmt.Sprint("list ", i, " way ", way), got, ok, sortCells(want), true)
			wantCells(t, fmt.Sprint("list ", i, " way ", way, ", written out"), got, ok, plainTurn(l, way), true)
		}
	}
}

// Each way but 0 brings these cells out of order.
func TestTurnedCellsAreInOrder(t *testing.T) {
	l := cells{at(1, 0), at(3, 0), at(0, 2)}
	for way, want := range []cells{
		{at(1, 0), at(3, 0), at(0, 2)},
		{at(-2, 0), at(0, 1), at(0, 3)},
		{at(0, -2), at(-3, 0), at(-1, 0)},
		{at(0, -3), at(0, -1), at(2, 0)},
		{at(-3, 0), at(-1, 0), at(0, 2)},
		{at(0, -3), at(0, -1), at(-2, 0)},
		{at(0, -2), at(1, 0), at(3, 0)},
		{at(2, 0), at(0, 1), at(0, 3)},
	} {
		got, ok := impl.TurnCells(l, way)
		wantCells(t, fmt.Sprint("way ", way), got, ok, want, true)
		if asTurned := eachTurned(l, wayMaps()[way]); slices.Equal(asTurned, want) != (way == 0) {
			t.Error("in order without being put so: way", way)
		}
	}
}

func TestTurnCellsAtFar(t *testing.T) {
	top, bottom := row(-far, -far, 81), row(-far, far, 81)
	left, right := column(-far, -far, 81), column(far, -far, 81)
	corner := cells{at(-far, -far), at(1-far, -far)}
	for way, want := range []struct{ edge, corner cells }{
		{top, corner},
		{right, cells{at(far, -far), at(far, 1-far)}},
		{bottom, cells{at(far-1, far), at(far, far)}},
		{left, cells{at(-far, far-1), at(-far, far)}},
		{top, cells{at(far-1, -far), at(far, -far)}},
		{right, cells{at(far, far-1), at(far, far)}},
		{bottom, cells{at(-far, far), at(1-far, far)}},
		{left, cells{at(-far, -far), at(-far, 1-far)}},
	} {
		got, ok := impl.TurnCells(top, way)
		wantCells(t, fmt.Sprint("the uppermost, way ", way), got, ok, want.edge, true)
		got, ok = impl.TurnCells(corner, way)
		wantCells(t, fmt.Sprint("in the corner, way ", way), got, ok, want.corner, true)
		got, ok = impl.TurnCells(wide(impl.MaxCells), way)
		wantCells(t, fmt.Sprint("MaxCells, way ", way), got, ok, plainTurn(wide(impl.MaxCells), way), true)
		corners := cells{at(-far, -far), at(far, -far), at(-far, far), at(far, far)}
		got, ok = impl.TurnCells(corners, way)
		wantCells(t, fmt.Sprint("all corners, way ", way), got, ok, corners, true)
	}
}

func TestTurnsOfNoCellsAndOfOne(t *testing.T) {
	for _, l := range []cells{nil, {}} {
		wantForms(t, "no cells", l, []cells{nil}, allWays)
		for way := range manyWays {
			got, ok := impl.TurnCells(l, way)
			wantCells(t, fmt.Sprint("no cells, way ", way), got, ok, nil, true)
		}
	}
	for _, c := range (cells{at(0, 0), at(3, -7), at(far, far), at(-far, -far), at(far, -far), at(-far, far), at(0, far)}) {
		wantForms(t, fmt.Sprint("one ", c), cells{c}, []cells{{at(0, 0)}}, allWays)
		for way := range manyWays {
			got, ok := impl.TurnCells(cells{c}, way)
			wantCells(t, fmt.Sprint("one ", c, " way ", way), got, ok, cells{byTheMaps(c, way)}, true)
		}
	}
}

func TestWaysOneBehindTheOther(t *testing.T) {
	for a := range manyWays {
		back, ok := impl.BackWay(a)
		wantThat(t, fmt.Sprint("BackWay ", a), back, ok, backWays[a], true)
		for b := range manyWays {
			way, ok := impl.ThenWay(a, b)
			wantThat(t, fmt.Sprint("ThenWay ", a, b), way, ok, thenWays[a][b], true)
		}
		there, ok := impl.ThenWay(a, back)
		wantThat(t, fmt.Sprint("there and back ", a), there, ok, 0, true)
		there, ok = impl.ThenWay(back, a)
		wantThat(t, fmt.Sprint("back and there ", a), there, ok, 0, true)
	}
}

// lopsided: lists that no way keeps, so that all eight ways make other cells of them.
func lopsided() []cells {
	lists := []cells{{at(1, 2)}, {at(-far, far-1)}, glider, {at(1, 0), at(3, 0), at(0, 2)}, drawn("ooo", "o..")}
	return append(lists, wide(100)[10:])
}

// A way and then another is the one way that ThenWay tells, for all cells, and no other way is it for some.
func TestTurnedCellsTurnedAgain(t *testing.T) {
	for i, l := range lopsided() {
		for a := range manyWays {
			first, ok1 := impl.TurnCells(l, a)
			for b := range manyWays {
				twice, ok2 := impl.TurnCells(first, b)
				then, ok3 := impl.ThenWay(a, b)
				for way := range manyWays {
					once, ok := impl.TurnCells(l, way)
					if same := slices.Equal(once, twice); same != (way == then) || !ok || !ok1 || !ok2 || !ok3 {
						t.Errorf("list %d ways %d %d: as way %d: %v", i, a, b, way, same)
					}
				}
			}
			back, ok := impl.BackWay(a)
			again, told := impl.TurnCells(first, back)
			wantCells(t, fmt.Sprint("list ", i, " way ", a, " and back"), again, ok && told, l, true)
		}
	}
	for i, l := range turnsTried() {
		a, b := i%manyWays, i/manyWays%manyWays
		first, _ := impl.TurnCells(l, a)
		twice, ok := impl.TurnCells(first, b)
		wantCells(t, fmt.Sprint("list ", i, " ways ", a, b), twice, ok, plainTurn(l, thenWays[a][b]), true)
		again, ok := impl.TurnCells(first, backWays[a])
		wantCells(t, fmt.Sprint("list ", i, " way ", a, " and back"), again, ok, l, true)
	}
}

// Cells turned about come to the same, turned about.
func TestTurnedCellsStepAlike(t *testing.T) {
	told := map[bool]int{}
	for i, l := range turnsTried() {
		next, ok := impl.StepCells(l)
		later, okLater := impl.StepTimes(l, 5)
		for way := range manyWays {
			what := fmt.Sprint("list ", i, " way ", way)
			turned, _ := impl.TurnCells(l, way)
			want, _ := impl.TurnCells(next, way)
			got, okTurned := impl.StepCells(turned)
			wantCells(t, what, got, okTurned, want, ok)
			want, _ = impl.TurnCells(later, way)
			got, okTurned = impl.StepTimes(turned, 5)
			wantCells(t, what+", five steps", got, okTurned, want, okLater)
		}
		told[okLater]++
	}
	if told[true] < 300 || told[false] < 30 {
		t.Errorf("the lists try too little: %v", told)
	}
}

func TestFormsThatAreKnown(t *testing.T) {
	pin := []cells{drawn(".o..", "...o", "o...", "..o."), drawn("..o.", "o...", "...o", ".o..")}
	zig := []cells{drawn("oo.", ".oo"), drawn("o.", "oo", ".o"), drawn(".oo", "oo."), drawn(".o", "oo", "o.")}
	tee := []cells{drawn("ooo", ".o."), drawn("o.", "oo", "o."), drawn(".o.", "ooo"), drawn(".o", "oo", ".o")}
	bend := []cells{drawn("oo", "o."), drawn("oo", ".o"), drawn("o.", "oo"), drawn(".o", "oo")}
	gliders := []cells{
		drawn("ooo", "o..", ".o."), drawn("ooo", "..o", ".o."), drawn("oo.", "o.o", "o.."), drawn("o..", "o.o", "oo."),
		drawn(".oo", "o.o", "..o"), drawn(".o.", "o..", "ooo"), drawn(".o.", "..o", "ooo"), drawn("..o", "o.o", ".oo"),
	}
	for name, c := range map[string]struct {
		turns []cells
		ways  [][]int
	}{
		"block":    {[]cells{drawn("oo", "oo")}, [][]int{allWays}},
		"octagon":  {[]cells{octagon}, [][]int{allWays}},
		"pin":      {pin, [][]int{{0, 1, 2, 3}, {0, 1, 2, 3}}},
		"row":      {[]cells{row(0, 0, 3), column(0, 0, 3)}, [][]int{{0, 2, 4, 6}, {0, 2, 4, 6}}},
		"longest":  {[]cells{row(0, 0, 41), column(0, 0, 41)}, [][]int{{0, 2, 4, 6}, {0, 2, 4, 6}}},
		"slanting": {[]cells{drawn("o.", ".o"), drawn(".o", "o.")}, [][]int{{0, 2, 5, 7}, {0, 2, 5, 7}}},
		"zig":      {zig, [][]int{{0, 2}, {0, 2}, {0, 2}, {0, 2}}},
		"tee":      {tee, [][]int{{0, 4}, {0, 6}, {0, 4}, {0, 6}}},
		"bend":     {bend, [][]int{{0, 7}, {0, 5}, {0, 5}, {0, 7}}},
		"glider":   {gliders, [][]int{{0}, {0}, {0}, {0}, {0}, {0}, {0}, {0}}},
	} {
		for i, l := range c.turns {
			for _, by := range (cells{at(0, 0), at(-1, -1), at(-far, -far), at(-far, 0), at(-3, -20)}) {
				wantForms(t, fmt.Sprint(name, " ", i, " by ", by), moved(l, by.X, by.Y), c.turns, c.ways[i])
			}
		}
	}
}

func TestFormsAreThePlainOnes(t *testing.T) {
	many, told := map[int]int{}, map[bool]int{}
	for i, l := range turnsTried() {
		what := fmt.Sprint("list ", i)
		forms, ok := plainForms(l)
		told[ok]++
		if !ok {
			wantNoForms(t, what, l)
			continue
		}
		turns := plainTurns(forms)
		many[len(turns)]++
		wantForms(t, what, l, turns, plainFixed(forms))
	}
	if many[1] < 30 || many[2] < 50 || many[4] < 50 || many[8] < 100 || told[false] < 100 {
		t.Errorf("the lists try too little: %v %v", many, told)
	}
}

// As many forms as there are, times the ways that keep one, are eight; and the ways that keep one are some that come to no others.
func TestFormsTimesWaysAreEight(t *testing.T) {
	for i, l := range turnsTried() {
		turns, ok1 := impl.TurnsOf(l)
		least, ok2 := impl.LeastTurn(l)
		ways, ok3 := impl.FixedBy(l)
		if _, _, ok := impl.HomeOf(l); ok1 != ok || ok2 != ok || ok3 != ok {
			t.Errorf("list %d: told %v %v %v, of a form %v", i, ok1, ok2, ok3, ok)
		}
		if !ok1 {
			continue
		}
		if len(turns)*len(ways) != manyWays {
			t.Errorf("list %d: %d forms, kept by %v", i, len(turns), ways)
		}
		wantCells(t, fmt.Sprint("list ", i, ": the first one"), turns[0], true, least, true)
		isOne := func(keep []int) bool { return slices.Equal(keep, ways) }
		if !slices.ContainsFunc(keepers, isOne) {
			t.Errorf("list %d: kept by %v", i, ways)
		}
	}
}

// Cells that are turned and moved have the same forms; each form is its own home; and a way keeps what is turned just where it keeps the cells, turned back and there again.
func TestTurnedAndMovedCellsHaveTheSameForms(t *testing.T) {
	r := rand.New(rand.NewSource(52))
	tried := 0
	for i, l := range turnsTried() {
		turns, ok := impl.TurnsOf(l)
		if !ok {
			continue
		}
		fixed, _ := impl.FixedBy(l)
		for way := range manyWays {
			var keep []int
			for _, f := range fixed {
				keep = append(keep, thenWays[thenWays[backWays[way]][f]][way])
			}
			slices.Sort(keep)
			places := fits(r, plainTurn(l, way))
			wantForms(t, fmt.Sprint("list ", i, " way ", way), places[r.Intn(len(places))], turns, keep)
			tried++
		}
		for _, form := range turns {
			home, by, ok := impl.HomeOf(form)
			wantHome(t, fmt.Sprint("list ", i, ": form ", form), home, by, ok, form, at(0, 0), true)
		}
	}
	if tried < 1000 {
		t.Error("the lists try too little:", tried)
	}
}

// Cells that are 40 apart have forms, those that are 41 apart have none, in X or in Y; all can be turned.
func TestFormsOfCellsFarApart(t *testing.T) {
	for from := -far; from <= far; from += 5 {
		for long := far - 2; long <= far+2 && from+long <= far; long++ {
			for _, l := range []cells{
				{at(from, 5), at(from+long, 5)},
				{at(5, from), at(5, from+long)},
				{at(from, -far), at(from+long, 3-far)},
				{at(from+long, 3), at(from, 4)},
				{at(far-2, from), at(far, from+long)},
				{at(from, from), at(from+long, from+long)},
				beside(row(from, -7, long+1), cells{at(from, -6)}),
			} {
				what := fmt.Sprint(l)
				forms, ok := plainForms(l)
				if ok != (long <= far) {
					t.Error("the cells try another thing:", what)
				}
				if ok {
					wantForms(t, what, l, plainTurns(forms), plainFixed(forms))
				} else {
					wantNoForms(t, what, l)
				}
				got, ok := impl.TurnCells(l, 5)
				wantCells(t, what, got, ok, plainTurn(l, 5), true)
			}
		}
	}
	wantNoForms(t, "from rim to rim", wide(impl.MaxCells))
	wantNoForms(t, "corners", cells{at(-far, -far), at(far, -far), at(-far, far), at(far, far)})
}

// turnedSquare: the number of a square turned about its middle, by places in rows, not by cells.
func turnedSquare(side, n, way int) int {
	for turn := range way/4 + way%4 {
		other := 0
		for y := range side {
			for x := range side {
				from := y*side + x
				to := x*side + side - 1 - y
				if way >= 4 && turn == 0 {
					to = y*side + side - 1 - x
				}
				other |= n >> from & 1 << to
			}
		}
		n = other
	}
	return n
}

func manySquares(side int) int { return 1 << (side * side) }

// plainClasses: how many squares are there that no way makes of a lesser one.
func plainClasses(side int) int {
	classes := 0
	for n := range manySquares(side) {
		isLeast := true
		for m := range n {
			for way := range manyWays {
				isLeast = isLeast && turnedSquare(side, m, way) != n
			}
		}
		if isLeast {
			classes++
		}
	}
	return classes
}

func TestClassesOf(t *testing.T) {
	for i, want := range []int{2, 6, 102} {
		side := i + 1
		got, ok := impl.ClassesOf(side)
		wantThat(t, fmt.Sprint("side ", side), got, ok, want, true)
		wantThat(t, fmt.Sprint("side ", side, ", reckoned"), got, ok, plainClasses(side), true)
	}
}

// The squares that each way keeps, all ways together, are eight times the classes; and the unlike forms of squares are no more than these, since those that are moved within a square are alike there.
func TestClassesByTheSquaresThatAreKept(t *testing.T) {
	for side := 1; side <= mostSide; side++ {
		kept, forms := 0, map[string]int{}
		full, _ := impl.SquareBy(side, manySquares(side)-1)
		for n := range manySquares(side) {
			l, ok := impl.SquareBy(side, n)
			for way := range manyWays {
				whole, ok1 := impl.TurnCells(full, way)
				least, _, ok2 := impl.BoxOf(whole)
				turned, ok3 := impl.TurnCells(l, way)
				back, ok4 := impl.MoveCells(turned, -least.X, -least.Y)
				want, ok5 := impl.SquareBy(side, turnedSquare(side, n, way))
				wantCells(t, fmt.Sprint("side ", side, " n ", n, " way ", way), back, ok && ok1 && ok2 && ok3 && ok4 && ok5, want, true)
				if slices.Equal(back, l) {
					kept++
				}
			}
			least, _ := impl.LeastTurn(l)
			forms[fmt.Sprint(least)]++
		}
		classes, ok := impl.ClassesOf(side)
		wantThat(t, fmt.Sprint("side ", side), kept, ok, manyWays*classes, true)
		if len(forms) > classes {
			t.Errorf("side %d: %d forms, %d classes", side, len(forms), classes)
		}
	}
}

func TestSquareBy(t *testing.T) {
	for side := 1; side <= mostSide; side++ {
		for n := range manySquares(side) {
			var want cells
			for bit := range side * side {
				if n/(1<<bit)%2 == 1 {
					want = append(want, at(bit%side, bit/side))
				}
			}
			got, ok := impl.SquareBy(side, n)
			wantCells(t, fmt.Sprint("side ", side, " n ", n), got, ok, want, true)
		}
	}
	for _, c := range []struct {
		side, n int
		want    cells
	}{
		{1, 0, nil},
		{1, 1, drawn("o")},
		{2, 0, nil},
		{2, 2, drawn(".o")},
		{2, 4, drawn("", "o")},
		{2, 15, block},
		{3, 0, nil},
		{3, 4, drawn("..o")},
		{3, 8, drawn("", "o")},
		{3, 273, drawn("o..", ".o.", "..o")},
		{3, 511, drawn("ooo", "ooo", "ooo")},
	} {
		got, ok := impl.SquareBy(c.side, c.n)
		wantCells(t, fmt.Sprint("side ", c.side, " n ", c.n, ", written out"), got, ok, c.want, true)
	}
}

func TestSquaresOutOfRange(t *testing.T) {
	for side := 1; side <= mostSide; side++ {
		for _, n := range []int{-1, -2, -manySquares(side), manySquares(side), manySquares(side) + 1, 2 * manySquares(side), 1 << 32, 1<<32 + 1, math.MinInt, math.MinInt + 1, math.MaxInt} {
			got, ok := impl.SquareBy(side, n)
			wantCells(t, fmt.Sprint("side ", side, " n ", n), got, ok, nil, false)
		}
	}
	for _, side := range []int{0, -1, -2, -3, mostSide + 1, 5, 8, 11, 1 << 32, 1<<32 + 2, math.MinInt, math.MinInt + 1, math.MinInt + 3, math.MaxInt} {
		for _, n := range []int{0, 1, 2, 15, 511, 512, -1, math.MinInt, math.MaxInt} {
			got, ok := impl.SquareBy(side, n)
			wantCells(t, fmt.Sprint("side ", side, " n ", n), got, ok, nil, false)
		}
		classes, ok := impl.ClassesOf(side)
		wantThat(t, fmt.Sprint("ClassesOf ", side), classes, ok, 0, false)
	}
}

func TestWaysOutOfRange(t *testing.T) {
	for _, wrong := range wrongWays {
		for _, l := range []cells{nil, {at(0, 0)}, block, glider} {
			got, ok := impl.TurnCells(l, wrong)
			wantCells(t, fmt.Sprint(l, " way ", wrong), got, ok, nil, false)
		}
		back, ok := impl.BackWay(wrong)
		wantThat(t, fmt.Sprint("BackWay ", wrong), back, ok, 0, false)
		for _, other := range slices.Concat(allWays, wrongWays) {
			way, ok := impl.ThenWay(wrong, other)
			wantThat(t, fmt.Sprint("ThenWay ", wrong, other), way, ok, 0, false)
			way, ok = impl.ThenWay(other, wrong)
			wantThat(t, fmt.Sprint("ThenWay ", other, wrong), way, ok, 0, false)
		}
	}
}

func TestBadListsAreNotTurned(t *testing.T) {
	for name, l := range badLists() {
		wantNoForms(t, name, l)
		for _, way := range slices.Concat(allWays, wrongWays) {
			got, ok := impl.TurnCells(l, way)
			wantCells(t, fmt.Sprint(name, " way ", way), got, ok, nil, false)
		}
	}
}

// turnCalls: the functions of chapter 8 that answer lists of cells, each of one list.
func turnCalls() map[string]func(cells) ([]cells, bool) {
	calls := map[string]func(cells) ([]cells, bool){
		"TurnsOf": impl.TurnsOf,
		"LeastTurn": func(l cells) ([]cells, bool) {
			least, ok := impl.LeastTurn(l)
			return []cells{least}, ok
		},
	}
	for way := -1; way <= manyWays; way++ {
		calls[fmt.Sprint("TurnCells ", way)] = func(l cells) ([]cells, bool) {
			turned, ok := impl.TurnCells(l, way)
			return []cells{turned}, ok
		}
	}
	return calls
}

func TestTurnedCellsAreNewMemory(t *testing.T) {
	lists := badLists()
	for i, l := range turnsTried() {
		if i%7 == 0 {
			lists[fmt.Sprint("list ", i)] = l
		}
	}
	for _, name := range slices.Sorted(maps.Keys(lists)) {
		given, whole := guarded(lists[name])
		before := slices.Clone(whole)
		for call, on := range turnCalls() {
			what := call + " " + name
			got, ok := on(given)
			again, told := on(given)
			want, wantOk := on(slices.Clip(slices.Clone(lists[name])))
			wantLists(t, what+": what lies behind is read", got, ok, want, wantOk)
			wantApart(t, what, slices.Concat(spansOfLists(got), spansOfLists(again), []span{spanOf(whole)}))
			for _, l := range got {
				spoil(l)
			}
			clear(got[:cap(got)])
			wantLists(t, what+": an answer's memory is another one's", again, told, want, wantOk)
			got, ok = on(given)
			wantLists(t, what+": once more", got, ok, want, wantOk)
		}
		ways, ok := impl.FixedBy(given)
		again, told := impl.FixedBy(given)
		want, wantOk := impl.FixedBy(slices.Clone(lists[name]))
		wantApart(t, "FixedBy "+name, []span{spanOf(ways), spanOf(again)})
		wantNumbers(t, "FixedBy "+name, ways, ok, want, wantOk)
		clear(ways[:cap(ways)])
		wantNumbers(t, "FixedBy "+name+": an answer's memory is another one's", again, told, want, wantOk)
		if !slices.Equal(whole, before) {
			t.Fatalf("%s: the argument's memory is written", name)
		}
	}
}

// What is behind the lists of TurnsOf in its memory is not handed out.
func TestNothingBehindTheFormsIsHandedOut(t *testing.T) {
	for i, l := range turnsTried() {
		turns, _ := impl.TurnsOf(l)
		for _, form := range turns[len(turns):cap(turns)] {
			if len(form) > 0 {
				t.Fatalf("list %d: a form behind the forms: %v", i, form)
			}
		}
	}
}

func TestSquaresAreNewMemory(t *testing.T) {
	for side := 1; side <= mostSide; side++ {
		for n := range manySquares(side) {
			what := fmt.Sprint("side ", side, " n ", n)
			first, _ := impl.SquareBy(side, n)
			want := slices.Clone(first)
			other, _ := impl.SquareBy(side, n)
			wantApart(t, what, []span{spanOf(first), spanOf(other)})
			spoil(first)
			again, ok := impl.SquareBy(side, n)
			wantCells(t, what, again, ok, want, true)
			wantCells(t, what, other, ok, want, true)
		}
	}
}

// Good cells behind a list's length are as if they were not there.
func TestNothingBehindTheLengthIsTurned(t *testing.T) {
	whole := slices.Concat(row(-1, 0, 6), row(-1, 1, 2), row(-5, 3, 3))
	before := slices.Clone(whole)
	for long := range len(whole) + 1 {
		plain := slices.Clip(slices.Clone(whole[:long]))
		for call, on := range turnCalls() {
			got, ok := on(whole[:long])
			want, wantOk := on(plain)
			wantLists(t, fmt.Sprint(call, " ", long), got, ok, want, wantOk)
		}
		ways, ok := impl.FixedBy(whole[:long])
		want, wantOk := impl.FixedBy(plain)
		wantNumbers(t, fmt.Sprint("FixedBy ", long), ways, ok, want, wantOk)
	}
	wantCells(t, "what lies behind", whole, true, before, true)
}

// A function that kept something from call to call would tell others now and then.
func TestTheSameTurnsAgain(t *testing.T) {
	for _, l := range []cells{nil, glider, wide(impl.MaxCells), row(-20, 0, 41), pulsar} {
		for call, on := range turnCalls() {
			first, ok := on(l)
			for range 10 {
				on(toad)
				impl.ClassesOf(mostSide)
				got, told := on(l)
				wantLists(t, call, got, told, first, ok)
			}
		}
	}
}
