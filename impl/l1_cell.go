package impl

import (
	"cmp"
	"slices"
)

const MaxCells = 120
const Far = 40

const (
	maxGiven = 200
	maxTimes = 20
	maxMove  = 100
)

type Cell struct {
	X int
	Y int
}

func GoodCells(l []Cell) bool {
	return len(l) <= MaxCells && allInReach(l) && areRising(l)
}

func NearOf(l []Cell, c Cell) (int, bool) {
	if !GoodCells(l) || !inReach(c) {
		return 0, false
	}
	near := 0
	for _, n := range around(c) {
		if hasCell(l, n) {
			near++
		}
	}
	return near, true
}

func StepCells(l []Cell) ([]Cell, bool) {
	if !GoodCells(l) {
		return nil, false
	}
	return onlyGood(stepFreely(l))
}

func StepTimes(l []Cell, times int) ([]Cell, bool) {
	if !GoodCells(l) || times < 0 || times > maxTimes {
		return nil, false
	}
	return timesOver(l, times, StepCells)
}

func CellsOf(l []Cell) ([]Cell, bool) {
	if len(l) > maxGiven {
		return nil, false
	}
	return onlyGood(inOrder(countsOf(l)))
}

func BoxOf(l []Cell) (Cell, Cell, bool) {
	if !GoodCells(l) || len(l) == 0 {
		return Cell{}, Cell{}, false
	}
	least, most := l[0], l[0]
	for _, c := range l {
		least = Cell{X: min(least.X, c.X), Y: min(least.Y, c.Y)}
		most = Cell{X: max(most.X, c.X), Y: max(most.Y, c.Y)}
	}
	return least, most, true
}

func MoveCells(l []Cell, x int, y int) ([]Cell, bool) {
	if !GoodCells(l) || !isMove(x) || !isMove(y) {
		return nil, false
	}
	return onlyGood(moveFreely(l, x, y))
}

func BothCells(a []Cell, b []Cell) ([]Cell, bool) {
	if !GoodCells(a) || !GoodCells(b) {
		return nil, false
	}
	return onlyGood(inOrder(countsOf(a, b)))
}

func IsAlive(l []Cell, c Cell) (bool, bool) {
	if !GoodCells(l) || !inReach(c) {
		return false, false
	}
	return hasCell(l, c), true
}

func inReach(c Cell) bool {
	return -Far <= c.X && c.X <= Far && -Far <= c.Y && c.Y <= Far
}

func allInReach(l []Cell) bool {
	for _, c := range l {
		if !inReach(c) {
			return false
		}
	}
	return true
}

func areRising(l []Cell) bool {
	for i := 1; i < len(l); i++ {
		if compareCells(l[i-1], l[i]) >= 0 {
			return false
		}
	}
	return true
}

func isMove(n int) bool {
	return -maxMove <= n && n <= maxMove
}

func compareCells(a, b Cell) int {
	if a.Y != b.Y {
		return cmp.Compare(a.Y, b.Y)
	}
	return cmp.Compare(a.X, b.X)
}

// onlyGood stands at the end of what may leave the limits, so that no half answer is told beside a false.
func onlyGood(l []Cell) ([]Cell, bool) {
	if !GoodCells(l) {
		return nil, false
	}
	return l, true
}

// hasCell halves its way to the cell: l must be in order.
func hasCell(l []Cell, c Cell) bool {
	_, found := slices.BinarySearchFunc(l, c, compareCells)
	return found
}

// around leaves out the cell itself, which does not count for its own life.
func around(c Cell) [8]Cell {
	return [8]Cell{
		{X: c.X - 1, Y: c.Y - 1}, {X: c.X, Y: c.Y - 1}, {X: c.X + 1, Y: c.Y - 1},
		{X: c.X - 1, Y: c.Y}, {X: c.X + 1, Y: c.Y},
		{X: c.X - 1, Y: c.Y + 1}, {X: c.X, Y: c.Y + 1}, {X: c.X + 1, Y: c.Y + 1},
	}
}

// stepFreely goes beyond Far and MaxCells, since a step is refused for where it comes to, not kept within.
func stepFreely(l []Cell) []Cell {
	near := nearCounts(l)
	deleteDead(near, l)
	return inOrder(near)
}

// timesOver ends at the first step that is told false, so that none goes on from what is no good list; for no step at all it still tells new memory.
func timesOver(l []Cell, times int, step func([]Cell) ([]Cell, bool)) ([]Cell, bool) {
	now, ok := append([]Cell(nil), l...), true
	for i := 0; ok && i < times; i++ {
		now, ok = step(now)
	}
	return now, ok
}

// nearCounts has only cells with a neighbour: no other one can live on or be born.
func nearCounts(l []Cell) map[Cell]int {
	near := make(map[Cell]int)
	for _, c := range l {
		for _, n := range around(c) {
			near[n]++
		}
	}
	return near
}

func deleteDead(near map[Cell]int, l []Cell) {
	for c, n := range near {
		if n != 3 && !(n == 2 && hasCell(l, c)) {
			delete(near, c)
		}
	}
}

func moveFreely(l []Cell, x, y int) []Cell {
	moved := make([]Cell, len(l))
	for i, c := range l {
		moved[i] = Cell{X: c.X + x, Y: c.Y + y}
	}
	return moved
}

func countsOf(lists ...[]Cell) map[Cell]int {
	counts := make(map[Cell]int)
	for _, l := range lists {
		for _, c := range l {
			counts[c]++
		}
	}
	return counts
}

// inOrder sorts, since a map is gone through in any order.
func inOrder(counts map[Cell]int) []Cell {
	cells := make([]Cell, 0, len(counts))
	for c := range counts {
		cells = append(cells, c)
	}
	slices.SortFunc(cells, compareCells)
	return cells
}
