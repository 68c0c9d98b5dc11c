package tests

import (
	"fmt"
	"maps"
	"math"
	"math/bits"
	"math/rand"
	"slices"
	"testing"

	"loop.example/g00613/impl"
)

type world = impl.World

const maxAge = 1000

// wantWorld: fails unless the answer is this world and that told.
func wantWorld(t *testing.T, what string, got world, ok bool, want world, wantOk bool) {
	t.Helper()
	if ok != wantOk || got.Age != want.Age || !slices.Equal(got.Cells, want.Cells) {
		t.Errorf("%s: got %v %v, want %v %v", what, got, ok, want, wantOk)
	}
}

func wantNoWorld(t *testing.T, what string, got world, ok bool) {
	t.Helper()
	wantWorld(t, what, got, ok, world{}, false)
}

// wantSquare: fails unless the answer is this square and that told.
func wantSquare(t *testing.T, what string, c impl.Cell, level int, ok bool, want impl.Cell, wantLevel int, wantOk bool) {
	t.Helper()
	if c != want || level != wantLevel || ok != wantOk {
		t.Errorf("%s: got %v %v %v, want %v %v %v", what, c, level, ok, want, wantLevel, wantOk)
	}
}

// badWorlds: worlds that are not good, each for one reason.
func badWorlds() map[string]world {
	all := map[string]world{}
	for name, l := range badLists() {
		all[name] = world{Cells: l}
		all[name+", of Age 7"] = world{Cells: l, Age: 7}
	}
	// The ages just below 0 would be good again when steps are added.
	for _, age := range []int{-1, -2, -7, -8, -19, -20, maxAge + 1, maxAge + 20, 1 << 32, math.MinInt, math.MaxInt, math.MaxInt - 1} {
		for name, l := range map[string]cells{"no cells": nil, "a cell": {at(0, 0)}, "a block": block} {
			all[fmt.Sprint(name, " of Age ", age)] = world{Cells: l, Age: age}
		}
	}
	return all
}

// worldsTried: good worlds of many kinds and ages, half of them of few enough cells side by side for a square.
func worldsTried() []world {
	r := rand.New(rand.NewSource(42))
	lists := mixedLists()
	for i := range 400 {
		side := 1 + r.Intn(12)
		x, y := r.Intn(2*far+2-side)-far, r.Intn(2*far+2-side)-far
		switch i % 5 {
		case 1:
			x, y = -far, -far
		case 2:
			x, y = far+1-side, far+1-side
		}
		lists = append(lists, someCells(r, x, y, side, 1+r.Intn(side*side)))
	}
	ages := []int{0, 1, 7, 500, maxAge - 20, maxAge - 3, maxAge - 2, maxAge - 1, maxAge}
	var worlds []world
	for i, l := range lists {
		if plainGood(l) {
			worlds = append(worlds, world{Cells: l, Age: ages[i%len(ages)]})
		}
	}
	return worlds
}

// plainWorld: that world, where it is good.
func plainWorld(l cells, age int) (world, bool) {
	if !plainGood(l) || age < 0 || age > maxAge {
		return world{}, false
	}
	return world{Cells: l, Age: age}, true
}

// ends: the least X and Y, and the greatest ones.
func ends(l cells) (impl.Cell, impl.Cell) {
	least, most := l[0], l[0]
	for _, c := range l {
		least = at(min(least.X, c.X), min(least.Y, c.Y))
		most = at(max(most.X, c.X), max(most.Y, c.Y))
	}
	return least, most
}

// plainSquare: SquareFor by the words of the document, cell by cell, of a good world.
func plainSquare(w world, steps int) (impl.Cell, int, bool) {
	if len(w.Cells) == 0 || steps < 1 || steps > 8 {
		return impl.Cell{}, 0, false
	}
	least, most := ends(w.Cells)
	for level := 2; level <= impl.MaxLevel; level++ {
		quarter := 1 << level / 4
		corner := at(least.X-steps-quarter, least.Y-steps-quarter)
		fits := quarter >= steps
		for y := least.Y - steps; y <= most.Y+steps; y++ {
			for x := least.X - steps; x <= most.X+steps; x++ {
				u, v := x-corner.X, y-corner.Y
				fits = fits && quarter <= u && u < 3*quarter && quarter <= v && v < 3*quarter
			}
		}
		if fits {
			return corner, level, true
		}
	}
	return impl.Cell{}, 0, false
}

// plainByTree: AdvanceByTree by the plane, which is moved ahead of it so that its middle has room.
func plainByTree(w world, steps int) (world, bool) {
	if _, _, ok := plainSquare(w, steps); !ok {
		return world{}, false
	}
	c := w.Cells[0]
	next := shiftedBy(plainMany(shiftedBy(w.Cells, c.X, c.Y), steps), -c.X, -c.Y)
	return plainWorld(next, w.Age+steps)
}

// byParts: the world gone on by each of the parts, one behind the other, by one of the two ways.
func byParts(on func(world, int) (world, bool), w world, parts []int) (world, bool) {
	ok := true
	for _, p := range parts {
		if ok {
			w, ok = on(w, p)
		}
	}
	return w, ok
}

// turned: cells in the four quarters of the plane, X and Y changed about too.
func turned() []func(x, y int) impl.Cell {
	return []func(x, y int) impl.Cell{
		func(x, y int) impl.Cell { return at(x, y) },
		func(x, y int) impl.Cell { return at(-x, y) },
		func(x, y int) impl.Cell { return at(y, x) },
		func(x, y int) impl.Cell { return at(y, -x) },
	}
}

// rowsOf: a row of that length at each of these Y.
func rowsOf(long int, ys ...int) cells {
	var l cells
	for _, y := range ys {
		l = append(l, row(0, y, long)...)
	}
	return l
}

func TestNewWorld(t *testing.T) {
	for i, l := range mixedLists() {
		w, ok := impl.NewWorld(l)
		wantWorld(t, fmt.Sprint("list ", i), w, ok, world{Cells: l}, true)
	}
	for name, l := range badLists() {
		w, ok := impl.NewWorld(l)
		wantNoWorld(t, name, w, ok)
	}
	w, ok := impl.NewWorld(wide(impl.MaxCells))
	wantWorld(t, "MaxCells", w, ok, world{Cells: wide(impl.MaxCells)}, true)
}

func TestGoodWorld(t *testing.T) {
	for i, l := range mixedLists() {
		for _, age := range []int{0, 1, 20, maxAge - 1, maxAge} {
			if w := (world{Cells: l, Age: age}); !impl.GoodWorld(w) {
				t.Errorf("list %d of Age %d: told bad", i, age)
			}
		}
	}
	for name, w := range badWorlds() {
		if impl.GoodWorld(w) {
			t.Errorf("%s: told good", name)
		}
	}
}

func TestBadWorldsGetTheZeroAnswer(t *testing.T) {
	good := world{Cells: block}
	for name, w := range badWorlds() {
		for call, on := range worldCalls() {
			got, ok := on(w)
			wantNoWorld(t, call+" "+name, got, ok)
		}
		for steps := range 10 {
			c, level, ok := impl.SquareFor(w, steps)
			wantSquare(t, fmt.Sprint("SquareFor ", name, " ", steps), c, level, ok, impl.Cell{}, 0, false)
			got, ok := impl.AdvanceByTree(w, steps)
			wantNoWorld(t, fmt.Sprint("AdvanceByTree ", name, " ", steps), got, ok)
		}
		for _, other := range []world{good, w} {
			same, ok := impl.SameWorld(w, other)
			wantTold(t, "SameWorld a "+name, same, ok, false, false)
			same, ok = impl.SameWorld(other, w)
			wantTold(t, "SameWorld b "+name, same, ok, false, false)
		}
	}
}

// worldCalls: the functions of chapter 6 that tell a world, each of one world.
func worldCalls() map[string]func(world) (world, bool) {
	return map[string]func(world) (world, bool){
		"Advance 0":       func(w world) (world, bool) { return impl.Advance(w, 0) },
		"Advance 1":       func(w world) (world, bool) { return impl.Advance(w, 1) },
		"Advance 3":       func(w world) (world, bool) { return impl.Advance(w, 3) },
		"Advance 20":      func(w world) (world, bool) { return impl.Advance(w, 20) },
		"AdvanceByTree 1": func(w world) (world, bool) { return impl.AdvanceByTree(w, 1) },
		"AdvanceByTree 2": func(w world) (world, bool) { return impl.AdvanceByTree(w, 2) },
		"AdvanceByTree 7": func(w world) (world, bool) { return impl.AdvanceByTree(w, 7) },
		"MoveWorld 0":     func(w world) (world, bool) { return impl.MoveWorld(w, 0, 0) },
		"MoveWorld 1":     func(w world) (world, bool) { return impl.MoveWorld(w, 1, -1) },
		"MoveWorld 100":   func(w world) (world, bool) { return impl.MoveWorld(w, 100, 100) },
	}
}

func TestAdvanceIsThePlainOne(t *testing.T) {
	told := map[bool]int{}
	for i, w := range worldsTried() {
		now, good := w.Cells, true
		for steps := 0; steps <= 20; steps++ {
			want, wantOk := world{}, false
			if good {
				want, wantOk = plainWorld(now, w.Age+steps)
			}
			got, ok := impl.Advance(w, steps)
			wantWorld(t, fmt.Sprint("world ", i, " steps ", steps), got, ok, want, wantOk)
			told[ok]++
			if good {
				now = plainStep(now)
				good = plainGood(now)
			}
		}
	}
	if told[true] < 1000 || told[false] < 1000 {
		t.Errorf("the worlds try too little: %v", told)
	}
}

func TestAdvanceOfKnownWorlds(t *testing.T) {
	w, ok := impl.NewWorld(blinker)
	wantWorld(t, "a blinker", w, ok, world{Cells: blinker}, true)
	w, ok = impl.Advance(w, 3)
	wantWorld(t, "3 on", w, ok, world{Cells: cells{at(0, -1), at(0, 0), at(0, 1)}, Age: 3}, true)
	w, ok = impl.Advance(w, 19)
	wantWorld(t, "19 more", w, ok, world{Cells: blinker, Age: 22}, true)
	w, ok = impl.Advance(world{Cells: glider, Age: 4}, 20)
	wantWorld(t, "a glider", w, ok, world{Cells: shifted(glider, 5), Age: 24}, true)
	w, ok = impl.Advance(world{Cells: cells{at(0, 0)}, Age: 9}, 1)
	wantWorld(t, "all die", w, ok, world{Age: 10}, true)
	w, ok = impl.Advance(world{}, 20)
	wantWorld(t, "no cells", w, ok, world{Age: 20}, true)
}

func TestAdvanceOutOfRange(t *testing.T) {
	for _, steps := range []int{-1, -20, 21, 22, 1 << 32, math.MinInt, math.MaxInt} {
		for _, age := range []int{0, 1, 20, 500, maxAge} {
			for _, l := range []cells{nil, block} {
				w, ok := impl.Advance(world{Cells: l, Age: age}, steps)
				wantNoWorld(t, fmt.Sprint("steps ", steps, " age ", age), w, ok)
			}
		}
	}
}

// An Age of 1000 is met exactly and not passed, by the plane and by a tree.
func TestTheGreatestAge(t *testing.T) {
	for steps := 0; steps <= 20; steps++ {
		for _, l := range []cells{nil, block} {
			what := fmt.Sprint("steps ", steps, " cells ", len(l))
			w, ok := impl.Advance(world{Cells: l, Age: maxAge - steps}, steps)
			wantWorld(t, what+": met", w, ok, world{Cells: l, Age: maxAge}, true)
			if steps > 0 {
				w, ok = impl.Advance(world{Cells: l, Age: maxAge - steps + 1}, steps)
				wantNoWorld(t, what+": passed by one", w, ok)
				w, ok = impl.Advance(world{Cells: l, Age: maxAge}, steps)
				wantNoWorld(t, what+": passed", w, ok)
			}
			if 1 <= steps && steps <= 7 && len(l) > 0 {
				w, ok = impl.AdvanceByTree(world{Cells: l, Age: maxAge - steps}, steps)
				wantWorld(t, what+": met by a tree", w, ok, world{Cells: l, Age: maxAge}, true)
				w, ok = impl.AdvanceByTree(world{Cells: l, Age: maxAge - steps + 1}, steps)
				wantNoWorld(t, what+": passed by one by a tree", w, ok)
			}
		}
	}
	w, ok := impl.MoveWorld(world{Cells: block, Age: maxAge}, 3, -4)
	wantWorld(t, "moved", w, ok, world{Cells: shiftedBy(block, -3, 4), Age: maxAge}, true)
	c, level, ok := impl.SquareFor(world{Cells: block, Age: maxAge}, 1)
	wantSquare(t, "its square", c, level, ok, at(-3, -3), 3, true)
}

func TestPartedStepsAddUp(t *testing.T) {
	gone := 0
	for i, w := range worldsTried() {
		if i%4 > 0 {
			continue
		}
		for steps := 0; steps <= 20; steps++ {
			whole, wantOk := impl.Advance(w, steps)
			parts, _ := impl.SplitSteps(steps)
			for range 2 {
				got, ok := byParts(impl.Advance, w, parts)
				wantWorld(t, fmt.Sprint("world ", i, " parts ", parts), got, ok, whole, wantOk)
				slices.Reverse(parts)
				if ok && len(got.Cells) > 0 && len(parts) > 1 {
					gone++
				}
			}
		}
		for a := range 11 {
			b := (a*7 + i) % 11
			whole, wantOk := impl.Advance(w, a+b)
			got, ok := byParts(impl.Advance, w, []int{a, b})
			wantWorld(t, fmt.Sprint("world ", i, " parts ", a, b), got, ok, whole, wantOk)
		}
	}
	if gone < 300 {
		t.Errorf("the worlds try too little: %d", gone)
	}
}

func TestPartedStepsAddUpByATree(t *testing.T) {
	tried := 0
	for i, w := range worldsTried() {
		for a := 1; a <= 7; a++ {
			for b := 1; a+b <= 7; b++ {
				parted, ok := byParts(impl.AdvanceByTree, w, []int{a, b})
				whole, is := impl.AdvanceByTree(w, a+b)
				if ok && is {
					wantWorld(t, fmt.Sprint("world ", i, " parts ", a, b), parted, ok, whole, true)
					tried++
				}
			}
		}
	}
	if tried < 300 {
		t.Errorf("the worlds try too little: %d", tried)
	}
}

// All steps that a world may go on at all, by parts that are gone on by at most 16 at once.
func TestAThousandSteps(t *testing.T) {
	for name, l := range map[string]cells{"no cells": nil, "a block": block, "a blinker": blinker, "in the corner": shifted(block, far-1)} {
		for _, steps := range []int{999, 1000} {
			parts, ok := impl.SplitSteps(steps)
			var small []int
			for _, p := range parts {
				small = append(small, slices.Repeat([]int{min(p, 16)}, max(p/16, 1))...)
			}
			want := l
			if name == "a blinker" && steps == 999 {
				want = cells{at(0, -1), at(0, 0), at(0, 1)}
			}
			w, told := byParts(impl.Advance, world{Cells: l}, small)
			wantWorld(t, fmt.Sprint(name, " ", steps), w, told && ok, world{Cells: want, Age: steps}, true)
			w, told = impl.Advance(w, 1001-steps)
			wantNoWorld(t, name+" passed", w, told)
		}
	}
}

func TestSplitSteps(t *testing.T) {
	for steps := 0; steps <= 1000; steps++ {
		parts, ok := impl.SplitSteps(steps)
		sum := 0
		for i, p := range parts {
			if bits.OnesCount(uint(p)) != 1 || p < 1 || i > 0 && parts[i-1] >= p {
				t.Errorf("%d: no powers of two, rising: %v", steps, parts)
			}
			sum += p
		}
		if sum != steps || !ok {
			t.Errorf("%d: got %v %v", steps, parts, ok)
		}
	}
	for steps, want := range map[int][]int{
		0: nil, 1: {1}, 2: {2}, 3: {1, 2}, 8: {8}, 20: {4, 16}, 21: {1, 4, 16}, 511: {1, 2, 4, 8, 16, 32, 64, 128, 256},
		512: {512}, 513: {1, 512}, 999: {1, 2, 4, 32, 64, 128, 256, 512}, 1000: {8, 32, 64, 128, 256, 512},
		-1: nil, -2: nil, -1000: nil, 1001: nil, 1024: nil, 2000: nil, 1 << 32: nil, math.MinInt: nil, math.MaxInt: nil,
	} {
		parts, ok := impl.SplitSteps(steps)
		wantNumbers(t, fmt.Sprint(steps), parts, ok, want, 0 <= steps && steps <= 1000)
	}
}

func TestSquaresArePlainOnes(t *testing.T) {
	levels := map[int]int{}
	for i, w := range worldsTried() {
		for steps := -1; steps <= 9; steps++ {
			want, wantLevel, wantOk := plainSquare(w, steps)
			c, level, ok := impl.SquareFor(w, steps)
			wantSquare(t, fmt.Sprint("world ", i, " steps ", steps), c, level, ok, want, wantLevel, wantOk)
			levels[level]++
		}
	}
	if levels[0] < 500 || levels[3] < 50 || levels[4] < 300 || levels[5] < 500 {
		t.Errorf("the worlds try too little: %v", levels)
	}
}

// How long cells may be on one side for each level, written out: what they are more on the other side, or one more, asks for the next.
func TestTheRoomOfEachLevel(t *testing.T) {
	room := map[int]map[int]int{
		1: {3: 2, 4: 6, 5: 14}, 2: {4: 4, 5: 12}, 3: {4: 2, 5: 10}, 4: {5: 8}, 5: {5: 6}, 6: {5: 4}, 7: {5: 2}, 8: {},
	}
	quarters := map[int]int{3: 2, 4: 4, 5: 8}
	for steps, of := range room {
		for long := 1; long <= 20; long++ {
			level := 0
			for l := impl.MaxLevel; l >= 2; l-- {
				if most, ok := of[l]; ok && long <= most {
					level = l
				}
			}
			for name, l := range map[string]cells{
				"a row":          row(5, -3, long),
				"a column":       column(5, -3, long),
				"its ends":       sortCells(cells{at(5, -3), at(4+long, -3)}),
				"of a column":    sortCells(cells{at(5, -3), at(5, -4+long)}),
				"a fall":         sortCells(cells{at(5, -3), at(4+long, -4+long)}),
				"a rise":         sortCells(cells{at(4+long, -3), at(5, -4+long)}),
				"left and upper": sortCells(cells{at(4+long, -4+long), at(5, -4+long), at(4+long, -3)}),
				"right corner":   sortCells(cells{at(5, -3), at(4+long, -3), at(4+long, -4+long)}),
			} {
				want := impl.Cell{}
				if level > 0 {
					want = at(5-steps-quarters[level], -3-steps-quarters[level])
				}
				c, got, ok := impl.SquareFor(world{Cells: l}, steps)
				wantSquare(t, fmt.Sprint(name, " of ", long, " steps ", steps), c, got, ok, want, level, level > 0)
			}
		}
	}
}

// column: the cells from y on, one below the other, so many.
func column(x, y, long int) cells {
	var l cells
	for i := range long {
		l = append(l, at(x, y+i))
	}
	return l
}

// One cell put beside those that just fit, on each of the four sides, asks for the next level, and beyond the last one there is none.
func TestOneCellMoreThanThereIsRoom(t *testing.T) {
	for steps, most := range map[int][]int{1: {2, 6, 14}, 2: {4, 12}, 3: {2, 10}, 4: {8}, 5: {6}, 6: {4}, 7: {2}} {
		for i, long := range most {
			last := long - 1
			just := cells{at(0, 0), at(last, 0), at(0, last), at(last, last)}
			level := impl.MaxLevel - len(most) + 1 + i
			_, got, ok := impl.SquareFor(world{Cells: just}, steps)
			what := fmt.Sprint("steps ", steps, " long ", long)
			wantTold(t, what+" just fits", got == level, ok, true, true)
			for _, c := range (cells{at(-1, 0), at(last, -1), at(long, last), at(0, long)}) {
				l := sortCells(append(slices.Clone(just), c))
				want, wantLevel, wantOk := impl.Cell{}, 0, level < impl.MaxLevel
				if wantOk {
					quarter := 1 << (level - 1)
					want, wantLevel = at(min(c.X, 0)-steps-quarter, min(c.Y, 0)-steps-quarter), level+1
				}
				at, got, ok := impl.SquareFor(world{Cells: l}, steps)
				wantSquare(t, fmt.Sprint(what, " and ", c), at, got, ok, want, wantLevel, wantOk)
				w, is := impl.AdvanceByTree(world{Cells: l}, steps)
				if !wantOk {
					wantNoWorld(t, fmt.Sprint(what, " and ", c, " by a tree"), w, is)
				}
			}
		}
	}
}

// The square may reach beyond Far: it is the cells that have limits.
func TestSquaresAtFar(t *testing.T) {
	for _, c := range (cells{at(-far, -far), at(far, -far), at(-far, far), at(far, far), at(0, -far), at(-far, 0)}) {
		for steps, level := range map[int]int{1: 3, 2: 4, 3: 4, 4: 5, 7: 5} {
			quarter := 1 << level / 4
			got, is, ok := impl.SquareFor(world{Cells: cells{c}, Age: 3}, steps)
			wantSquare(t, fmt.Sprint(c, " steps ", steps), got, is, ok, at(c.X-steps-quarter, c.Y-steps-quarter), level, true)
		}
	}
	c, level, ok := impl.SquareFor(world{Cells: cells{at(-far, -far), at(far, far)}}, 1)
	wantSquare(t, "from corner to corner", c, level, ok, impl.Cell{}, 0, false)
}

func TestStepsOutOfRangeForASquare(t *testing.T) {
	for _, steps := range []int{0, -1, -8, 8, 9, 16, 20, 1000, 1 << 32, math.MinInt, math.MaxInt, math.MaxInt / 2, math.MinInt / 2} {
		for _, l := range []cells{nil, {at(0, 0)}, block, glider} {
			what := fmt.Sprint("steps ", steps, " cells ", len(l))
			c, level, ok := impl.SquareFor(world{Cells: l}, steps)
			wantSquare(t, what, c, level, ok, impl.Cell{}, 0, false)
			w, ok := impl.AdvanceByTree(world{Cells: l}, steps)
			wantNoWorld(t, what, w, ok)
		}
	}
}

func TestWorldsWithoutACell(t *testing.T) {
	for _, l := range []cells{nil, {}} {
		for steps := -1; steps <= 9; steps++ {
			w := world{Cells: l, Age: 5}
			c, level, ok := impl.SquareFor(w, steps)
			wantSquare(t, "SquareFor", c, level, ok, impl.Cell{}, 0, false)
			got, ok := impl.AdvanceByTree(w, steps)
			wantNoWorld(t, "AdvanceByTree", got, ok)
		}
		w, ok := impl.NewWorld(l)
		wantWorld(t, "NewWorld", w, ok, world{}, true)
		w, ok = impl.MoveWorld(world{Cells: l, Age: 6}, 100, -100)
		wantWorld(t, "MoveWorld", w, ok, world{Age: 6}, true)
		w, ok = impl.Advance(world{Cells: l, Age: 6}, 0)
		wantWorld(t, "Advance 0", w, ok, world{Age: 6}, true)
		same, ok := impl.SameWorld(world{Cells: l, Age: 6}, world{Age: 6})
		wantTold(t, "SameWorld", same, ok, true, true)
	}
}

func TestATreeGoesOnAsThePlaneDoes(t *testing.T) {
	told, alike := map[bool]int{}, 0
	for i, w := range worldsTried() {
		for steps := 1; steps <= 8; steps++ {
			what := fmt.Sprint("world ", i, " steps ", steps)
			want, wantOk := plainByTree(w, steps)
			got, ok := impl.AdvanceByTree(w, steps)
			wantWorld(t, what, got, ok, want, wantOk)
			told[ok]++
			if plane, is := impl.Advance(w, steps); is && ok {
				wantWorld(t, what+" by the plane", got, ok, plane, true)
				alike++
			}
		}
	}
	if told[true] < 500 || told[false] < 500 || alike < 500 {
		t.Errorf("the worlds try too little: %v %d", told, alike)
	}
}

func TestByATreeOfKnownWorlds(t *testing.T) {
	up := cells{at(0, -1), at(0, 0), at(0, 1)}
	for steps := 1; steps <= 6; steps++ {
		want := blinker
		if steps%2 == 1 {
			want = up
		}
		w, ok := impl.AdvanceByTree(world{Cells: blinker, Age: 10}, steps)
		wantWorld(t, fmt.Sprint("a blinker ", steps), w, ok, world{Cells: want, Age: 10 + steps}, true)
	}
	w, ok := impl.AdvanceByTree(world{Cells: blinker}, 7)
	wantNoWorld(t, "no room for a blinker", w, ok)
	w, ok = impl.AdvanceByTree(world{Cells: shifted(glider, -far)}, 4)
	wantWorld(t, "a glider", w, ok, world{Cells: shifted(glider, 1-far), Age: 4}, true)
	w, ok = impl.AdvanceByTree(world{Cells: cells{at(far, -far)}, Age: 2}, 7)
	wantWorld(t, "all die", w, ok, world{Age: 9}, true)
	for _, c := range (cells{at(-far, -far), at(far-1, -far), at(-far, far-1), at(far-1, far-1)}) {
		for steps := 1; steps <= 7; steps++ {
			l := shiftedBy(block, -c.X, -c.Y)
			w, ok = impl.AdvanceByTree(world{Cells: l}, steps)
			wantWorld(t, fmt.Sprint("a block at ", c, steps), w, ok, world{Cells: l, Age: steps}, true)
		}
	}
}

// A row of three along the edge would come beyond it; a tree looks at where the steps end alone, the plane on the way too.
func TestBeyondFar(t *testing.T) {
	for i, turn := range turned() {
		along := world{Cells: sortCells(cells{turn(far, -1), turn(far, 0), turn(far, 1)})}
		across := world{Cells: sortCells(cells{turn(far-2, 0), turn(far-1, 0), turn(far, 0)})}
		within := world{Cells: sortCells(cells{turn(far-1, -1), turn(far-1, 0), turn(far-1, 1)})}
		for steps := 1; steps <= 6; steps++ {
			what := fmt.Sprint("turn ", i, " steps ", steps)
			w, ok := impl.Advance(along, steps)
			wantNoWorld(t, what+" along", w, ok)
			w, ok = impl.AdvanceByTree(along, steps)
			if steps%2 == 1 {
				wantNoWorld(t, what+" along, by a tree", w, ok)
			} else {
				wantWorld(t, what+" along, by a tree", w, ok, world{Cells: along.Cells, Age: steps}, true)
			}
			want := world{Cells: across.Cells, Age: steps}
			if steps%2 == 0 {
				want.Cells = within.Cells
			}
			w, ok = impl.Advance(within, steps)
			wantWorld(t, what+" within", w, ok, want, true)
			w, ok = impl.AdvanceByTree(within, steps)
			wantWorld(t, what+" within, by a tree", w, ok, want, true)
		}
	}
}

// Rows two apart come to all rows between: MaxCells are met just, passed by one, and passed on the way.
func TestBeyondMaxCells(t *testing.T) {
	just := world{Cells: rowsOf(12, 0, 3, 6, 9)}
	var want cells
	for y := -1; y <= 10; y++ {
		want = append(want, row(1, y, 10)...)
	}
	w, ok := impl.Advance(just, 1)
	wantWorld(t, "just", w, ok, world{Cells: want, Age: 1}, len(want) == impl.MaxCells)
	w, ok = impl.AdvanceByTree(just, 1)
	wantWorld(t, "just, by a tree", w, ok, world{Cells: want, Age: 1}, true)

	over := world{Cells: sortCells(append(slices.Clone(just.Cells), at(0, 1)))}
	if n := len(plainMany(over.Cells, 1)); n != impl.MaxCells+1 {
		t.Fatal("one more than MaxCells is wanted:", n)
	}
	w, ok = impl.Advance(over, 1)
	wantNoWorld(t, "one more", w, ok)
	w, ok = impl.AdvanceByTree(over, 1)
	wantNoWorld(t, "one more, by a tree", w, ok)

	for _, l := range []cells{over.Cells, rowsOf(12, 0, 3, 6, 9, 11)} {
		back := plainMany(l, 2)
		if n, m := len(plainMany(l, 1)), len(back); n <= impl.MaxCells || m > impl.MaxCells {
			t.Fatal("more than MaxCells on the way are wanted:", n, m)
		}
		w, ok = impl.Advance(world{Cells: l}, 2)
		wantNoWorld(t, "on the way", w, ok)
		w, ok = impl.AdvanceByTree(world{Cells: l}, 2)
		wantWorld(t, "on the way, by a tree", w, ok, world{Cells: back, Age: 2}, true)
	}
}

func TestAWorldOfMaxCellsByATree(t *testing.T) {
	r := rand.New(rand.NewSource(43))
	for i := range 60 {
		l := someCells(r, -far, far-13, 14, 400)
		for len(l) > impl.MaxCells {
			n := r.Intn(len(l))
			l = slices.Delete(l, n, n+1)
		}
		if len(l) != impl.MaxCells {
			t.Fatal(len(l))
		}
		for steps := 1; steps <= 2; steps++ {
			want, wantOk := plainByTree(world{Cells: l}, steps)
			w, ok := impl.AdvanceByTree(world{Cells: l}, steps)
			wantWorld(t, fmt.Sprint("world ", i, " steps ", steps), w, ok, want, wantOk)
		}
	}
	thick := rowsOf(10, 0, 1, 2, 3, 4, 5, 6, 7, 8, 9, 10, 11)
	for steps := 1; steps <= 2; steps++ {
		want, wantOk := plainByTree(world{Cells: thick}, steps)
		w, ok := impl.AdvanceByTree(world{Cells: thick}, steps)
		wantWorld(t, fmt.Sprint("all side by side, steps ", steps), w, ok, want, wantOk)
		wantTold(t, "there is room", ok, ok, true, true)
	}
}

func TestMoveWorld(t *testing.T) {
	r := rand.New(rand.NewSource(44))
	told := map[bool]int{}
	for i, w := range worldsTried() {
		for range 4 {
			x, y := r.Intn(81)-40, r.Intn(81)-40
			want, wantOk := plainWorld(shiftedBy(w.Cells, -x, -y), w.Age)
			got, ok := impl.MoveWorld(w, x, y)
			wantWorld(t, fmt.Sprint("world ", i, " by ", x, y), got, ok, want, wantOk)
			told[ok]++
		}
	}
	if told[true] < 300 || told[false] < 300 {
		t.Errorf("the worlds try too little: %v", told)
	}
}

func TestMoveWorldLimits(t *testing.T) {
	w, ok := impl.MoveWorld(world{Cells: cells{at(-far, far)}, Age: 4}, 2*far, -2*far)
	wantWorld(t, "from corner to corner", w, ok, world{Cells: cells{at(far, -far)}, Age: 4}, true)
	for _, by := range (cells{at(2*far+1, 0), at(0, -2*far-1), at(-1, 0), at(0, 1), at(100, 0), at(0, -100)}) {
		w, ok = impl.MoveWorld(world{Cells: cells{at(-far, far)}, Age: 4}, by.X, by.Y)
		wantNoWorld(t, fmt.Sprint("too far ", by), w, ok)
	}
	for _, by := range (cells{at(100, 100), at(-100, -100), at(100, -100), at(0, 0)}) {
		w, ok = impl.MoveWorld(world{Age: 4}, by.X, by.Y)
		wantWorld(t, fmt.Sprint("no cells ", by), w, ok, world{Age: 4}, true)
	}
	for _, n := range []int{-101, 101, 1 << 32, math.MinInt, math.MaxInt} {
		for _, l := range []cells{nil, block} {
			w, ok = impl.MoveWorld(world{Cells: l}, n, 0)
			wantNoWorld(t, fmt.Sprint("x ", n), w, ok)
			w, ok = impl.MoveWorld(world{Cells: l}, 0, n)
			wantNoWorld(t, fmt.Sprint("y ", n), w, ok)
		}
	}
}

// Where a world stands makes no difference to what comes of it, nor to its square.
func TestMovedWorldsGoOnAlike(t *testing.T) {
	r := rand.New(rand.NewSource(45))
	tried := 0
	for i, w := range worldsTried() {
		x, y, steps := r.Intn(41)-20, r.Intn(41)-20, 1+r.Intn(7)
		moved, ok := impl.MoveWorld(w, x, y)
		if !ok {
			continue
		}
		what := fmt.Sprint("world ", i, " by ", x, y, " steps ", steps)
		c, level, is := impl.SquareFor(w, steps)
		if is {
			c = at(c.X+x, c.Y+y)
		}
		d, other, told := impl.SquareFor(moved, steps)
		wantSquare(t, what, d, other, told, c, level, is)
		for name, on := range map[string]func(world, int) (world, bool){"Advance": impl.Advance, "AdvanceByTree": impl.AdvanceByTree} {
			a, ok1 := on(w, steps)
			b, ok2 := on(moved, steps)
			a, ok3 := impl.MoveWorld(a, x, y)
			if ok1 && ok2 && ok3 {
				wantWorld(t, name+" "+what, b, ok2, a, true)
				same, ok := impl.SameWorld(a, b)
				wantTold(t, name+" "+what, same, ok, true, true)
				tried++
			}
		}
	}
	if tried < 100 {
		t.Errorf("the worlds try too little: %d", tried)
	}
}

func TestSameWorldWhereverItStands(t *testing.T) {
	r := rand.New(rand.NewSource(46))
	moves, others := 0, 0
	worlds := worldsTried()
	for i, w := range worlds {
		for range 6 {
			x, y := r.Intn(81)-40, r.Intn(81)-40
			moved, ok := plainWorld(shiftedBy(w.Cells, x, y), w.Age)
			if !ok {
				continue
			}
			moves++
			same, ok := impl.SameWorld(w, moved)
			wantTold(t, fmt.Sprint("world ", i, " by ", x, y), same, ok, true, true)
			same, ok = impl.SameWorld(moved, w)
			wantTold(t, fmt.Sprint("and back ", i, " by ", x, y), same, ok, true, true)
			older := moved
			older.Age = (w.Age + 1) % (maxAge + 1)
			same, ok = impl.SameWorld(w, older)
			wantTold(t, fmt.Sprint("of unlike Ages ", i), same, ok, false, true)
		}
		// One cell that stands elsewhere, or not at all, or twice as many.
		for n := range w.Cells {
			other := slices.Clone(w.Cells)
			other[n].X += 1 - 2*r.Intn(2)
			other = sortCells(other)
			b, ok := plainWorld(other, w.Age)
			if !ok {
				continue
			}
			others++
			want := len(other) == len(w.Cells) && slices.Equal(plainForm(w.Cells), plainForm(other))
			same, ok := impl.SameWorld(w, b)
			wantTold(t, fmt.Sprint("world ", i, " and ", b), same, ok, want, true)
			less := world{Cells: slices.Delete(slices.Clone(w.Cells), n, n+1), Age: w.Age}
			same, ok = impl.SameWorld(w, less)
			wantTold(t, fmt.Sprint("world ", i, " and ", less), same, ok, false, true)
			same, ok = impl.SameWorld(less, w)
			wantTold(t, fmt.Sprint(less, " and world ", i), same, ok, false, true)
		}
	}
	if moves < 1000 || others < 1000 {
		t.Errorf("the worlds try too little: %d %d", moves, others)
	}
}

// plainForm: the cells from their least X and Y on.
func plainForm(l cells) cells {
	least, _ := ends(l)
	return shiftedBy(l, least.X, least.Y)
}

func TestSameWorldOfKnownWorlds(t *testing.T) {
	up := cells{at(0, -1), at(0, 0), at(0, 1)}
	corners := cells{at(-far, -far), at(far, -far), at(-far, far), at(far, far)}
	for _, c := range []struct {
		a, b world
		want bool
	}{
		{world{}, world{}, true},
		{world{Age: 3}, world{Age: 3}, true},
		{world{Age: 3}, world{Age: 4}, false},
		{world{Age: 0}, world{Age: maxAge}, false},
		{world{}, world{Cells: cells{at(0, 0)}}, false},
		{world{Cells: cells{at(-far, -far)}}, world{Cells: cells{at(far, far)}}, true},
		{world{Cells: cells{at(far, -far)}, Age: maxAge}, world{Cells: cells{at(-far, far)}, Age: maxAge}, true},
		{world{Cells: blinker}, world{Cells: up}, false},
		{world{Cells: corners}, world{Cells: corners}, true},
		{world{Cells: corners}, world{Cells: corners[:3]}, false},
		{world{Cells: corners[:2]}, world{Cells: corners[2:]}, true},
		{world{Cells: row(0, 0, 3)}, world{Cells: cells{at(0, 0), at(1, 0), at(3, 0)}}, false},
		{world{Cells: cells{at(0, 0), at(2, 0), at(3, 0)}}, world{Cells: cells{at(0, 0), at(1, 0), at(3, 0)}}, false},
		{world{Cells: cells{at(1, 0), at(0, 1)}}, world{Cells: cells{at(0, 0), at(1, 1)}}, false},
		{world{Cells: cells{at(0, 0), at(0, 1)}}, world{Cells: cells{at(0, 0), at(0, 2)}}, false},
		{world{Cells: wide(impl.MaxCells)}, world{Cells: wide(impl.MaxCells)}, true},
	} {
		same, ok := impl.SameWorld(c.a, c.b)
		wantTold(t, fmt.Sprint(c.a, c.b), same, ok, c.want, true)
		same, ok = impl.SameWorld(c.b, c.a)
		wantTold(t, fmt.Sprint(c.b, c.a), same, ok, c.want, true)
	}
}

// worldsGuarded: good worlds and bad ones by name.
func worldsGuarded() map[string]world {
	all := badWorlds()
	for i, w := range worldsTried() {
		if i%12 == 0 {
			all[fmt.Sprint("world ", i)] = w
		}
	}
	return all
}

func TestWorldsAreNotWrittenIntoAndShareNothing(t *testing.T) {
	all := worldsGuarded()
	for _, name := range slices.Sorted(maps.Keys(all)) {
		l, whole := guarded(all[name].Cells)
		given := world{Cells: l, Age: all[name].Age}
		before := slices.Clone(whole)
		calls := worldCalls()
		calls["NewWorld"] = func(w world) (world, bool) { return impl.NewWorld(w.Cells) }
		for call, on := range calls {
			what := call + " " + name
			got, ok := on(given)
			again, told := on(given)
			want, wantOk := on(all[name])
			wantWorld(t, what+": what lies behind is read", got, ok, want, wantOk)
			wantApart(t, what, []span{spanOf(got.Cells), spanOf(again.Cells), spanOf(whole)})
			spoil(got.Cells)
			wantWorld(t, what+": an answer's memory is another one's", again, told, want, wantOk)
		}
		impl.GoodWorld(given)
		for steps := range 9 {
			impl.SquareFor(given, steps)
		}
		other, wholeOther := guarded(shifted(all[name].Cells, 1))
		beforeOther := slices.Clone(wholeOther)
		impl.SameWorld(given, world{Cells: other, Age: given.Age})
		impl.SameWorld(world{Cells: other, Age: given.Age}, given)
		impl.SameWorld(given, given)
		if !slices.Equal(whole, before) || !slices.Equal(wholeOther, beforeOther) {
			t.Fatalf("%s: an argument's memory is written", name)
		}
	}
}

// Good cells behind a list's length are as if they were not there.
func TestNothingBehindAWorldsCellsIsRead(t *testing.T) {
	whole := slices.Concat(row(-1, 0, 6), row(-1, 1, 2))
	for long := range len(whole) + 1 {
		given, plain := world{Cells: whole[:long], Age: 3}, world{Cells: slices.Clone(whole[:long]), Age: 3}
		for call, on := range worldCalls() {
			got, ok := on(given)
			want, wantOk := on(plain)
			wantWorld(t, fmt.Sprint(call, " ", long), got, ok, want, wantOk)
		}
		for steps := range 9 {
			c, level, ok := impl.SquareFor(given, steps)
			want, wantLevel, wantOk := plainSquare(plain, steps)
			wantSquare(t, fmt.Sprint("SquareFor ", long, " ", steps), c, level, ok, want, wantLevel, wantOk)
		}
		for other := range len(whole) + 1 {
			same, ok := impl.SameWorld(given, world{Cells: whole[:other], Age: 3})
			wantTold(t, fmt.Sprint("SameWorld ", long, " ", other), same, ok, long == other, true)
		}
	}
}

// The parts are new memory at each call: what is written into one list is not in the next.
func TestPartsAreNewMemory(t *testing.T) {
	for range 2 {
		for _, steps := range []int{1, 2, 511, 512, 999, 1000} {
			parts, _ := impl.SplitSteps(steps)
			want := slices.Clone(parts)
			other, _ := impl.SplitSteps(steps)
			wantApart(t, "SplitSteps", []span{spanOf(parts), spanOf(other)})
			clear(parts[:cap(parts)])
			again, ok := impl.SplitSteps(steps)
			wantNumbers(t, fmt.Sprint(steps), again, ok, want, true)
		}
	}
}

// A function that leant on the order of a map, or kept something from call to call, would tell others now and then.
func TestTheSameWorldAgain(t *testing.T) {
	for _, l := range []cells{glider, rowsOf(12, 0, 3, 6, 9), wide(impl.MaxCells)} {
		w := world{Cells: l, Age: 3}
		for call, on := range worldCalls() {
			first, ok := on(w)
			for range 20 {
				on(world{Cells: blinker, Age: 900})
				got, told := on(w)
				wantWorld(t, call, got, told, first, ok)
			}
		}
	}
}
