package tests

import (
	"math"
	"math/rand"
	"slices"
	"strconv"
	"testing"

	"loop.example/g00613/impl"
)

const far = impl.Far

var (
	blinker = cells{at(-1, 0), at(0, 0), at(1, 0)}
	block   = cells{at(0, 0), at(1, 0), at(0, 1), at(1, 1)}
	glider  = cells{at(1, 0), at(2, 1), at(0, 2), at(1, 2), at(2, 2)}
)

// badLists: lists that are no good cells, each for one reason.
func badLists() map[string]cells {
	return map[string]cells{
		"greater Y first": {at(0, 1), at(0, 0)},
		"greater X first": {at(1, 0), at(0, 0)},
		"by X, not by Y":  {at(0, 1), at(1, 0)},
		"twice":           {at(3, 3), at(3, 3)},
		"last out of row": {at(0, 0), at(1, 0), at(2, 0), at(2, 0)},
		"X too great":     {at(far+1, 0)},
		"X too small":     {at(-far-1, 0)},
		"Y too great":     {at(0, far+1)},
		"Y too small":     {at(0, -far-1)},
		"greatest X":      {at(math.MaxInt, 0)},
		"least X":         {at(math.MinInt, 0)},
		"greatest Y":      {at(0, math.MaxInt)},
		"least Y":         {at(0, math.MinInt)},
		"last too far":    {at(0, 0), at(1, 0), at(0, far+1)},
		"too many":        wide(impl.MaxCells + 1),
		"far too many":    wide(81 * 81),
	}
}

// farCells: cells that are no cell of chapter 1.
func farCells() cells {
	return cells{
		at(far+1, 0), at(-far-1, 0), at(0, far+1), at(0, -far-1),
		at(math.MaxInt, 0), at(math.MinInt, 0), at(0, math.MaxInt), at(0, math.MinInt),
	}
}

// plainStep: a step by the words of the document, cell by cell over the whole plane that can matter.
func plainStep(l cells) cells {
	const edge = far + 3
	var alive [2*edge + 1][2*edge + 1]bool
	for _, c := range l {
		alive[c.Y+edge][c.X+edge] = true
	}
	var next cells
	for y := 1; y < 2*edge; y++ {
		for x := 1; x < 2*edge; x++ {
			near := 0
			for v := y - 1; v <= y+1; v++ {
				for u := x - 1; u <= x+1; u++ {
					if (u != x || v != y) && alive[v][u] {
						near++
					}
				}
			}
			if near == 3 || near == 2 && alive[y][x] {
				next = append(next, at(x-edge, y-edge))
			}
		}
	}
	return next
}

// plainGood: whether cells that are in order are within the limits.
func plainGood(l cells) bool {
	for _, c := range l {
		if c.X < -far || c.X > far || c.Y < -far || c.Y > far {
			return false
		}
	}
	return len(l) <= impl.MaxCells
}

// mixedLists: good lists of many kinds: in the middle, at the corners and edges, thin and thick.
func mixedLists() []cells {
	r := rand.New(rand.NewSource(1))
	lists := []cells{nil, {}, blinker, block, glider, wide(impl.MaxCells)}
	for i := range 400 {
		side := 2 + r.Intn(16)
		x, y := r.Intn(2*far+2-side)-far, r.Intn(2*far+2-side)-far
		switch i % 4 {
		case 1:
			x = -far
		case 2:
			y = far + 1 - side
		case 3:
			x, y = far+1-side, -far
		}
		lists = append(lists, someCells(r, x, y, side, 1+r.Intn(impl.MaxCells)))
	}
	return lists
}

func TestGoodCells(t *testing.T) {
	good := map[string]cells{
		"nil":         nil,
		"empty":       {},
		"one":         {at(5, -5)},
		"corners":     {at(-far, -far), at(far, -far), at(-far, far), at(far, far)},
		"lesser X":    {at(5, 0), at(-5, 1)},
		"as many":     wide(impl.MaxCells),
		"glider":      glider,
		"spread wide": {at(far, -far), at(-far, far)},
	}
	for name, l := range good {
		if !impl.GoodCells(l) {
			t.Errorf("%s: told bad", name)
		}
	}
	for name, l := range badLists() {
		if impl.GoodCells(l) {
			t.Errorf("%s: told good", name)
		}
	}
}

func TestBadListsGetTheZeroAnswer(t *testing.T) {
	for name, l := range badLists() {
		if n, ok := impl.NearOf(l, at(0, 0)); n != 0 || ok {
			t.Errorf("NearOf %s: %v %v", name, n, ok)
		}
		if a, ok := impl.IsAlive(l, at(0, 0)); a || ok {
			t.Errorf("IsAlive %s: %v %v", name, a, ok)
		}
		if a, b, ok := impl.BoxOf(l); a != at(0, 0) || b != at(0, 0) || ok {
			t.Errorf("BoxOf %s: %v %v %v", name, a, b, ok)
		}
		for call, f := range listCalls() {
			if call == "CellsOf" {
				continue
			}
			got, ok := f(l)
			wantCells(t, call+" "+name, got, ok, nil, false)
		}
	}
}

// listCalls: the functions of chapter 1 that answer a list, each of one list.
func listCalls() map[string]func(cells) (cells, bool) {
	return map[string]func(cells) (cells, bool){
		"CellsOf":     impl.CellsOf,
		"StepCells":   impl.StepCells,
		"StepTimes 0": func(l cells) (cells, bool) { return impl.StepTimes(l, 0) },
		"StepTimes 1": func(l cells) (cells, bool) { return impl.StepTimes(l, 1) },
		"StepTimes 3": func(l cells) (cells, bool) { return impl.StepTimes(l, 3) },
		"MoveCells 0": func(l cells) (cells, bool) { return impl.MoveCells(l, 0, 0) },
		"MoveCells 1": func(l cells) (cells, bool) { return impl.MoveCells(l, 1, -1) },
		"BothCells a": func(l cells) (cells, bool) { return impl.BothCells(l, nil) },
		"BothCells b": func(l cells) (cells, bool) { return impl.BothCells(nil, l) },
		"BothCells c": func(l cells) (cells, bool) { return impl.BothCells(l, cells{at(0, 0)}) },
		"BothCells d": func(l cells) (cells, bool) { return impl.BothCells(l, l) },
	}
}

// Each of the 512 squares of nine cells: the middle one lives just as the document says.
func TestEveryNeighbourhood(t *testing.T) {
	for bits := range 512 {
		var l cells
		near := 0
		for i := range 9 {
			if bits>>i&1 == 1 {
				l = append(l, at(i%3-1, i/3-1))
				if i != 4 {
					near++
				}
			}
		}
		was := bits>>4&1 == 1
		if n, ok := impl.NearOf(l, at(0, 0)); n != near || !ok {
			t.Errorf("NearOf %09b: %v %v, want %v", bits, n, ok, near)
		}
		if a, ok := impl.IsAlive(l, at(0, 0)); a != was || !ok {
			t.Errorf("IsAlive %09b: %v %v, want %v", bits, a, ok, was)
		}
		next, ok := impl.StepCells(l)
		if want := near == 3 || near == 2 && was; slices.Contains(next, at(0, 0)) != want || !ok {
			t.Errorf("StepCells %09b: %v %v, middle wants %v", bits, next, ok, want)
		}
	}
}

func TestStepIsThePlainOne(t *testing.T) {
	told := map[bool]int{}
	for i, l := range mixedLists() {
		want := plainStep(l)
		good := plainGood(want)
		if !good {
			want = nil
		}
		got, ok := impl.StepCells(l)
		wantCells(t, "list "+strconv.Itoa(i), got, ok, want, good)
		told[ok]++
	}
	if told[true] < 50 || told[false] < 50 {
		t.Errorf("the lists try too little: %v", told)
	}
}

func TestStepAtTheEdges(t *testing.T) {
	for _, turn := range []func(x, y int) impl.Cell{
		func(x, y int) impl.Cell { return at(x, y) },
		func(x, y int) impl.Cell { return at(-x, y) },
		func(x, y int) impl.Cell { return at(y, x) },
		func(x, y int) impl.Cell { return at(y, -x) },
	} {
		beyond := sortCells(cells{turn(far, -1), turn(far, 0), turn(far, 1)})
		got, ok := impl.StepCells(beyond)
		wantCells(t, "a cell beyond Far", got, ok, nil, false)
		within := sortCells(cells{turn(far-1, -1), turn(far-1, 0), turn(far-1, 1)})
		got, ok = impl.StepCells(within)
		wantCells(t, "a cell at Far", got, ok, sortCells(cells{turn(far-2, 0), turn(far-1, 0), turn(far, 0)}), true)
		corner := sortCells(cells{turn(far, far), turn(far-1, far), turn(far, far-1), turn(far-1, far-1)})
		got, ok = impl.StepCells(corner)
		wantCells(t, "a block in the corner", got, ok, corner, true)
		got, ok = impl.StepTimes(corner, 20)
		wantCells(t, "a block in the corner, 20 times", got, ok, corner, true)
		got, ok = impl.StepCells(corner[:3])
		wantCells(t, "three in the corner", got, ok, corner, true)
	}
}

func TestStepOfManyCells(t *testing.T) {
	var blocks cells
	for i := range impl.MaxCells / 4 {
		x, y := i%6*4-20, i/6*4-20
		blocks = append(blocks, at(x, y), at(x+1, y), at(x, y+1), at(x+1, y+1))
	}
	blocks = sortCells(blocks)
	got, ok := impl.StepCells(blocks)
	wantCells(t, "blocks of MaxCells cells", got, ok, blocks, true)
	got, ok = impl.StepCells(row(-20, 0, 42))
	wantCells(t, "just MaxCells cells behind", got, ok, append(append(row(-19, -1, 40), row(-19, 0, 40)...), row(-19, 1, 40)...), true)
	got, ok = impl.StepCells(row(-20, 0, 43))
	wantCells(t, "more than MaxCells cells behind", got, ok, nil, false)
}

func TestStepOfNoCells(t *testing.T) {
	for _, l := range []cells{nil, {}, {at(0, 0)}, {at(-far, far)}, {at(0, 0), at(1, 0)}} {
		got, ok := impl.StepCells(l)
		wantCells(t, "nothing lives", got, ok, nil, true)
		got, ok = impl.StepTimes(l, 20)
		wantCells(t, "nothing lives on", got, ok, nil, true)
	}
}

func TestMovedCellsComeToTheSameMoved(t *testing.T) {
	r := rand.New(rand.NewSource(2))
	tried := 0
	for i, l := range mixedLists() {
		x, y := r.Intn(41)-20, r.Intn(41)-20
		moved, ok1 := impl.MoveCells(l, x, y)
		next, ok2 := impl.StepCells(l)
		nextMoved, ok3 := impl.MoveCells(next, x, y)
		movedNext, ok4 := impl.StepCells(moved)
		if ok1 && ok2 && ok3 {
			wantCells(t, "list "+strconv.Itoa(i), movedNext, ok4, nextMoved, true)
			tried++
		}
	}
	if tried < 30 {
		t.Errorf("the lists try too little: %d", tried)
	}
}

func TestStepTimesIsStepByStep(t *testing.T) {
	for i, l := range mixedLists() {
		want, ok := sortCells(l), true
		for times := 0; times <= 20; times++ {
			got, told := impl.StepTimes(l, times)
			wantCells(t, "list "+strconv.Itoa(i)+" times "+strconv.Itoa(times), got, told, want, ok)
			if want = plainStep(want); !ok || !plainGood(want) {
				want, ok = nil, false
			}
		}
	}
}

func TestStepTimesOfAGlider(t *testing.T) {
	got, ok := impl.StepTimes(glider, 20)
	var want cells
	for _, c := range glider {
		want = append(want, at(c.X+5, c.Y+5))
	}
	wantCells(t, "20 times", got, ok, want, true)
	got, ok = impl.StepTimes(glider, 0)
	wantCells(t, "0 times", got, ok, glider, true)
}

func TestStepTimesOutOfRange(t *testing.T) {
	for _, times := range []int{-1, 21, math.MinInt, math.MaxInt} {
		for _, l := range []cells{nil, block} {
			got, ok := impl.StepTimes(l, times)
			wantCells(t, "times "+strconv.Itoa(times), got, ok, nil, false)
		}
	}
}

// What leaves the limits on the way is refused, even where it would come back.
func TestStepTimesOnTheWay(t *testing.T) {
	l := cells{at(far, -1), at(far, 0), at(far, 1)}
	got, ok := impl.StepTimes(l, 2)
	wantCells(t, "beyond Far and back", got, ok, nil, false)
	got, ok = impl.StepTimes(row(-20, 0, 43), 2)
	wantCells(t, "over MaxCells and back", got, ok, nil, false)
}

func TestCellsOf(t *testing.T) {
	r := rand.New(rand.NewSource(3))
	for i := range 200 {
		var l cells
		for range r.Intn(201) {
			l = append(l, at(r.Intn(12)-6, r.Intn(12)-6))
		}
		want := sortCells(l)
		good := plainGood(want)
		if !good {
			want = nil
		}
		got, ok := impl.CellsOf(l)
		wantCells(t, "list "+strconv.Itoa(i), got, ok, want, good)
	}
	got, ok := impl.CellsOf(nil)
	wantCells(t, "no cells", got, ok, nil, true)
	got, ok = impl.CellsOf(cells{at(far, far), at(-far, far), at(far, -far), at(-far, -far), at(far, far)})
	wantCells(t, "corners", got, ok, cells{at(-far, -far), at(far, -far), at(-far, far), at(far, far)}, true)
}

func TestCellsOfLimits(t *testing.T) {
	many := wide(impl.MaxCells)
	slices.Reverse(many)
	got, ok := impl.CellsOf(append(many, many[:80]...))
	wantCells(t, "200 given, MaxCells unlike", got, ok, wide(impl.MaxCells), true)
	got, ok = impl.CellsOf(append(many, many[:81]...))
	wantCells(t, "201 given, MaxCells unlike", got, ok, nil, false)
	got, ok = impl.CellsOf(wide(impl.MaxCells + 1))
	wantCells(t, "one unlike too many", got, ok, nil, false)
	got, ok = impl.CellsOf(make(cells, 200))
	wantCells(t, "200 alike", got, ok, cells{at(0, 0)}, true)
	got, ok = impl.CellsOf(make(cells, 201))
	wantCells(t, "201 alike", got, ok, nil, false)
	for _, c := range farCells() {
		got, ok = impl.CellsOf(cells{at(1, 1), c, at(0, 0)})
		wantCells(t, "one too far", got, ok, nil, false)
	}
}

func TestBoxOf(t *testing.T) {
	for i, l := range mixedLists() {
		least, most := at(0, 0), at(0, 0)
		for j, c := range l {
			if j == 0 {
				least, most = c, c
			}
			least.X, least.Y = min(least.X, c.X), min(least.Y, c.Y)
			most.X, most.Y = max(most.X, c.X), max(most.Y, c.Y)
		}
		a, b, ok := impl.BoxOf(l)
		if a != least || b != most || ok != (len(l) > 0) {
			t.Errorf("list %d: %v %v %v, want %v %v", i, a, b, ok, least, most)
		}
	}
	a, b, ok := impl.BoxOf(cells{at(far, -far), at(-far, far)})
	if a != at(-far, -far) || b != at(far, far) || !ok {
		t.Error("from corner to corner:", a, b, ok)
	}
}

func TestMoveCells(t *testing.T) {
	got, ok := impl.MoveCells(cells{at(-far, -far)}, 2*far, 2*far)
	wantCells(t, "from corner to corner", got, ok, cells{at(far, far)}, true)
	got, ok = impl.MoveCells(cells{at(far, far)}, -2*far, -2*far)
	wantCells(t, "and back", got, ok, cells{at(-far, -far)}, true)
	got, ok = impl.MoveCells(glider, -3, 7)
	wantCells(t, "a glider", got, ok, cells{at(-2, 7), at(-1, 8), at(-3, 9), at(-2, 9), at(-1, 9)}, true)
	for _, by := range []impl.Cell{at(far, 0), at(-far-1, 0), at(0, far-1), at(0, -far-1), at(100, 0), at(0, -100)} {
		got, ok = impl.MoveCells(glider, by.X, by.Y)
		wantCells(t, "too far", got, ok, nil, false)
	}
}

func TestMoveCellsLimits(t *testing.T) {
	for _, by := range []impl.Cell{at(100, 100), at(-100, -100), at(100, -100), at(0, 0)} {
		got, ok := impl.MoveCells(nil, by.X, by.Y)
		wantCells(t, "no cells, moved", got, ok, nil, true)
	}
	for _, n := range []int{-101, 101, math.MinInt, math.MaxInt} {
		for _, l := range []cells{nil, block} {
			got, ok := impl.MoveCells(l, n, 0)
			wantCells(t, "x "+strconv.Itoa(n), got, ok, nil, false)
			got, ok = impl.MoveCells(l, 0, n)
			wantCells(t, "y "+strconv.Itoa(n), got, ok, nil, false)
		}
	}
}

func TestBothCells(t *testing.T) {
	lists := mixedLists()
	for i, a := range lists {
		b := lists[(i*7+3)%len(lists)]
		want := sortCells(slices.Concat(a, b))
		good := plainGood(want)
		if !good {
			want = nil
		}
		got, ok := impl.BothCells(a, b)
		wantCells(t, "lists "+strconv.Itoa(i), got, ok, want, good)
		got, ok = impl.BothCells(b, a)
		wantCells(t, "lists the other way "+strconv.Itoa(i), got, ok, want, good)
	}
	all := wide(impl.MaxCells)
	got, ok := impl.BothCells(all, all)
	wantCells(t, "MaxCells twice", got, ok, all, true)
	got, ok = impl.BothCells(all[:60], all[60:])
	wantCells(t, "just MaxCells", got, ok, all, true)
	got, ok = impl.BothCells(all, cells{at(far, far)})
	wantCells(t, "more than MaxCells", got, ok, nil, false)
	for name, l := range badLists() {
		got, ok = impl.BothCells(block, l)
		wantCells(t, "b bad: "+name, got, ok, nil, false)
	}
}

func TestAskingForACell(t *testing.T) {
	for i, l := range mixedLists()[:60] {
		for y := -far; y <= far; y++ {
			for x := -far; x <= far; x++ {
				near := 0
				for _, c := range l {
					if d := max(c.X-x, x-c.X, c.Y-y, y-c.Y); d == 1 {
						near++
					}
				}
				if n, ok := impl.NearOf(l, at(x, y)); n != near || !ok {
					t.Fatalf("list %d NearOf %d %d: %v %v, want %v", i, x, y, n, ok, near)
				}
				want := slices.Contains(l, at(x, y))
				if a, ok := impl.IsAlive(l, at(x, y)); a != want || !ok {
					t.Fatalf("list %d IsAlive %d %d: %v %v, want %v", i, x, y, a, ok, want)
				}
			}
		}
	}
}

func TestAskingForACellTooFar(t *testing.T) {
	edges := sortCells(cells{at(far, 0), at(-far, 0), at(0, far), at(0, -far)})
	for _, l := range []cells{nil, edges} {
		for _, c := range farCells() {
			if n, ok := impl.NearOf(l, c); n != 0 || ok {
				t.Errorf("NearOf %v: %v %v", c, n, ok)
			}
			if a, ok := impl.IsAlive(l, c); a || ok {
				t.Errorf("IsAlive %v: %v %v", c, a, ok)
			}
		}
	}
}

// A function that leant on the order of a map would tell other answers now and then.
func TestTheSameAnswerAgain(t *testing.T) {
	for _, l := range []cells{glider, wide(impl.MaxCells), row(-20, 0, 42)} {
		for call, f := range listCalls() {
			first, ok := f(l)
			for range 30 {
				got, told := f(l)
				wantCells(t, call, got, told, first, ok)
			}
		}
	}
}

func TestNothingIsWrittenOrShared(t *testing.T) {
	lists := badLists()
	for i, l := range mixedLists()[:40] {
		lists["list "+strconv.Itoa(i)] = l
	}
	for name, l := range lists {
		given, whole := guarded(l)
		before := slices.Clone(whole)
		for call, f := range listCalls() {
			got, ok := f(given)
			again, _ := f(given)
			want := slices.Clone(again)
			spoil(got)
			if !slices.Equal(whole, before) {
				t.Fatalf("%s %s: the argument's memory is written", call, name)
			}
			wantCells(t, call+" "+name+": an answer's memory is another one's", again, ok, want, ok)
		}
		impl.GoodCells(given)
		impl.BoxOf(given)
		impl.NearOf(given, at(0, 0))
		impl.IsAlive(given, at(0, 0))
		if !slices.Equal(whole, before) {
			t.Fatalf("%s: the argument's memory is written", name)
		}
	}
}

// Both lists of BothCells are guarded here, each with cells of its own.
func TestBothCellsWritesIntoNeither(t *testing.T) {
	a, wholeA := guarded(block)
	b, wholeB := guarded(glider)
	beforeA, beforeB := slices.Clone(wholeA), slices.Clone(wholeB)
	got, ok := impl.BothCells(a, b)
	wantCells(t, "block and glider", got, ok, sortCells(slices.Concat(block, glider)), true)
	spoil(got)
	if !slices.Equal(wholeA, beforeA) || !slices.Equal(wholeB, beforeB) {
		t.Error("an argument's memory is written")
	}
}

// What lies behind a list's length is as if it were not there, good cells too.
func TestNothingBehindTheLengthIsRead(t *testing.T) {
	whole := row(-1, 0, 6)
	for call, f := range listCalls() {
		for long := range 5 {
			got, ok := f(whole[:long])
			want, wantOk := f(slices.Clone(whole[:long]))
			wantCells(t, call, got, ok, want, wantOk)
		}
	}
	if n, ok := impl.NearOf(whole[:1], at(0, 0)); n != 1 || !ok {
		t.Error(n, ok)
	}
	if a, ok := impl.IsAlive(whole[:1], at(0, 0)); a || !ok {
		t.Error(a, ok)
	}
	if _, most, ok := impl.BoxOf(whole[:2]); most != at(0, 0) || !ok {
		t.Error(most, ok)
	}
}
