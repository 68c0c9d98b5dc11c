package tests

import (
	"fmt"
	"iter"
	"maps"
	"math"
	"math/rand"
	"slices"
	"testing"

	"loop.example/g00613/impl"
)

// byName: the forests in one order, so that what is tried by chance is the same at each run.
func byName(forests map[string]impl.Forest) iter.Seq2[string, impl.Forest] {
	return func(yield func(string, impl.Forest) bool) {
		for _, name := range slices.Sorted(maps.Keys(forests)) {
			if !yield(name, forests[name]) {
				return
			}
		}
	}
}

// wrongNumbers: numbers that are out of any forest of n quads.
func wrongNumbers(n int) []int {
	return []int{-1, n, n + 1, impl.MaxNodes, 1 << 32, math.MinInt, math.MaxInt}
}

// badCells: cells that are beyond -Far..Far, by one number each.
func badCells() cells {
	var l cells
	for _, n := range []int{-far - 1, far + 1, math.MinInt, math.MaxInt, 1 << 32} {
		l = append(l, at(n, 0), at(0, n), at(n, n))
	}
	return l
}

// beyond: cells around a square of that side, and further off.
func beyond(side int) cells {
	var l cells
	for i := -1; i <= side; i++ {
		l = append(l, at(-1, i), at(side, i), at(i, -1), at(i, side))
	}
	return append(append(l, badCells()...), at(far, far), at(-far, -far))
}

// cellsTried: all cells of a small square, the edges and some others of a great one.
func cellsTried(r *rand.Rand, side int) cells {
	var l cells
	if side <= 4 {
		for y := range side {
			l = append(l, row(0, y, side)...)
		}
		return l
	}
	last := side - 1
	l = cells{at(0, 0), at(last, 0), at(0, last), at(last, last), at(side/2, side/2), at(side/2-1, side/2-1)}
	return append(l, someCells(r, 0, 0, side, 6)...)
}

// quadsTried: all numbers of a small forest, some of a great one, the last one among them.
func quadsTried(r *rand.Rand, f impl.Forest) []int {
	var numbers []int
	for q := range f.Quads {
		if len(f.Quads) < 25 || q < 2 || q == len(f.Quads)-1 || r.Intn(len(f.Quads)) < 10 {
			numbers = append(numbers, q)
		}
	}
	return numbers
}

func having(l cells, keep func(c impl.Cell) bool) cells {
	return slices.DeleteFunc(slices.Clone(l), func(c impl.Cell) bool { return !keep(c) })
}

func sideOf(f impl.Forest, q int) int {
	return 1 << f.Quads[q].Level
}

// plainSet: SetCell by the words of the document.
func plainSet(f impl.Forest, q int, c impl.Cell, alive bool) (impl.Forest, int, bool) {
	l := having(cellsOfPicture(pictures(f)[q]), func(d impl.Cell) bool { return d != c })
	if alive {
		l = append(l, c)
	}
	return plainTree(f, f.Quads[q].Level, l)
}

func plainUnion(f impl.Forest, a, b int) (impl.Forest, int, bool) {
	drawn := pictures(f)
	return plainTree(f, f.Quads[a].Level, append(cellsOfPicture(drawn[a]), cellsOfPicture(drawn[b])...))
}

func plainWithout(f impl.Forest, a, b int) (impl.Forest, int, bool) {
	drawn := pictures(f)
	less := cellsOfPicture(drawn[b])
	l := having(cellsOfPicture(drawn[a]), func(c impl.Cell) bool { return !slices.Contains(less, c) })
	return plainTree(f, f.Quads[a].Level, l)
}

func plainClear(f impl.Forest, q int, from, to impl.Cell) (impl.Forest, int, bool) {
	l := having(cellsOfPicture(pictures(f)[q]), func(c impl.Cell) bool {
		return c.X < from.X || c.X > to.X || c.Y < from.Y || c.Y > to.Y
	})
	return plainTree(f, f.Quads[q].Level, l)
}

// shifted: the cells with X and Y more by that.
func shifted(l cells, by int) cells {
	l = slices.Clone(l)
	for i := range l {
		l[i] = at(l[i].X+by, l[i].Y+by)
	}
	return l
}

func plainCentre(f impl.Forest, q int) (impl.Forest, int, bool) {
	if f.Quads[q].Level < 2 {
		return impl.Forest{}, 0, false
	}
	return plainTree(f, f.Quads[q].Level-1, shifted(cellsOfPicture(pictures(f)[q]), -sideOf(f, q)/4))
}

func plainFrame(f impl.Forest, q int) (impl.Forest, int, bool) {
	if f.Quads[q].Level < 1 || f.Quads[q].Level >= impl.MaxLevel {
		return impl.Forest{}, 0, false
	}
	return plainTree(f, f.Quads[q].Level+1, shifted(cellsOfPicture(pictures(f)[q]), sideOf(f, q)/2))
}

func plainFramed(f impl.Forest, q int) (bool, bool) {
	if f.Quads[q].Level < 2 {
		return false, false
	}
	side := sideOf(f, q)
	outside := having(cellsOfPicture(pictures(f)[q]), func(c impl.Cell) bool {
		return c.X < side/4 || c.X >= side*3/4 || c.Y < side/4 || c.Y >= side*3/4
	})
	return len(outside) == 0, true
}

// wantTold: fails unless both told are so.
func wantTold(t *testing.T, what string, is, ok, want, wantOk bool) {
	t.Helper()
	if is != want || ok != wantOk {
		t.Errorf("%s: got %v %v, want %v %v", what, is, ok, want, wantOk)
	}
}

func TestGetCell(t *testing.T) {
	r := rand.New(rand.NewSource(12))
	told := map[bool]int{}
	for name, f := range byName(goodForests()) {
		drawn := pictures(f)
		for _, q := range quadsTried(r, f) {
			alive := cellsOfPicture(drawn[q])
			for _, c := range cellsTried(r, sideOf(f, q)) {
				is, ok := impl.GetCell(f, q, c)
				wantTold(t, fmt.Sprint(name, " ", q, c), is, ok, slices.Contains(alive, c), true)
				told[is]++
			}
		}
	}
	if told[true] < 500 || told[false] < 500 {
		t.Errorf("the cells try too little: %v", told)
	}
}

func TestGetCellOfEveryCell(t *testing.T) {
	for level := range impl.MaxLevel + 1 {
		side := 1 << level
		l := someCells(rand.New(rand.NewSource(13)), 0, 0, side, 60)
		f, q, _ := impl.TreeOf(impl.NewForest(), level, l)
		for y := range side {
			for x := range side {
				is, ok := impl.GetCell(f, q, at(x, y))
				wantTold(t, fmt.Sprint("level ", level, at(x, y)), is, ok, slices.Contains(l, at(x, y)), true)
			}
		}
	}
}

func TestCellsBeyondTheSquare(t *testing.T) {
	f, q, ok := impl.NewForest(), 1, true
	for level := 0; level <= impl.MaxLevel; level++ {
		if level > 0 {
			f, q, ok = impl.JoinQuads(f, []int{q, q, q, q})
		}
		last := 1<<level - 1
		for _, c := range (cells{at(0, 0), at(last, 0), at(0, last), at(last, last)}) {
			is, told := impl.GetCell(f, q, c)
			wantTold(t, fmt.Sprint("at the edge ", level, c), is, told && ok, true, true)
			g, k, told := impl.SetCell(f, q, c, false)
			want, wantQ, wantOk := plainSet(f, q, c, false)
			wantTree(t, fmt.Sprint("at the edge ", level, c), g, k, told, want, wantQ, wantOk)
		}
		for _, c := range beyond(1 << level) {
			is, told := impl.GetCell(f, q, c)
			wantTold(t, fmt.Sprint("beyond ", level, c), is, told, false, false)
			for _, alive := range []bool{false, true} {
				g, k, told := impl.SetCell(f, q, c, alive)
				wantNoTree(t, fmt.Sprint("beyond ", level, c), g, k, told)
			}
		}
	}
}

func TestSetCellIsThePlainOne(t *testing.T) {
	r := rand.New(rand.NewSource(14))
	same, other, none := 0, 0, 0
	for name, f := range byName(goodForests()) {
		drawn := pictures(f)
		for _, q := range quadsTried(r, f) {
			was := cellsOfPicture(drawn[q])
			for _, c := range cellsTried(r, sideOf(f, q)) {
				alive := r.Intn(2) == 0
				want, wantQ, wantOk := plainSet(f, q, c, alive)
				g, k, ok := impl.SetCell(f, q, c, alive)
				what := fmt.Sprint(name, " ", q, c, alive)
				wantTree(t, what, g, k, ok, want, wantQ, wantOk)
				switch {
				case slices.Contains(was, c) == alive:
					wantTree(t, what+" is so already", g, k, ok, f, q, true)
					same++
				case ok:
					other++
				default:
					none++
				}
			}
		}
	}
	if same < 500 || other < 500 || none < 10 {
		t.Errorf("the cells try too little: %d %d %d", same, other, none)
	}
}

// Promise 4: the cell that is set is so, and all others are as they were.
func TestACellThatIsSetIsSo(t *testing.T) {
	r := rand.New(rand.NewSource(15))
	for level := range impl.MaxLevel + 1 {
		side := 1 << level
		l := someCells(r, 0, 0, side, 3*side)
		f, q, ok := impl.TreeOf(manyQuads(18), level, l)
		if !ok {
			t.Fatal(level, l)
		}
		for _, c := range cellsTried(r, side) {
			for _, alive := range []bool{true, false, true} {
				g, k, ok := impl.SetCell(f, q, c, alive)
				if !ok || !impl.GoodForest(g) || !sameForest(impl.Forest{Quads: g.Quads[:len(f.Quads)]}, f) {
					t.Fatal(level, c, alive, f, g, k, ok)
				}
				is, told := impl.GetCell(g, k, c)
				wantTold(t, fmt.Sprint("the cell itself ", level, c), is, told, alive, true)
				others := func(d impl.Cell) bool { return d != c }
				before, _ := impl.CellsIn(f, q)
				after, told := impl.CellsIn(g, k)
				wantCells(t, fmt.Sprint("all others ", level, c), having(after, others), told, having(before, others), true)
				again, n, told := impl.SetCell(g, k, c, alive)
				wantTree(t, "set once more", again, n, told, g, k, true)
				f, q = g, k
			}
		}
	}
}

// A cell that is set and set back makes the quad that was there.
func TestACellSetBack(t *testing.T) {
	r := rand.New(rand.NewSource(16))
	for name, f := range byName(goodForests()) {
		for _, q := range quadsTried(r, f) {
			c := cellsTried(r, sideOf(f, q))[0]
			was, _ := impl.GetCell(f, q, c)
			g, k, ok := impl.SetCell(f, q, c, !was)
			if !ok {
				continue
			}
			h, n, ok := impl.SetCell(g, k, c, was)
			wantTree(t, fmt.Sprint(name, " ", q, c), h, n, ok, g, q, true)
		}
	}
}

// pairsTried: pairs of quads of one Level, among them one with itself.
func pairsTried(r *rand.Rand, f impl.Forest) [][2]int {
	var pairs [][2]int
	for _, a := range quadsTried(r, f) {
		pairs = append(pairs, [2]int{a, a})
		for _, b := range r.Perm(len(f.Quads)) {
			if b != a && f.Quads[a].Level == f.Quads[b].Level {
				pairs = append(pairs, [2]int{a, b}, [2]int{b, a})
				break
			}
		}
	}
	return pairs
}

func TestUnionAndWithoutAreThePlainOnes(t *testing.T) {
	r := rand.New(rand.NewSource(17))
	told := map[bool]int{}
	for name, f := range byName(goodForests()) {
		for _, p := range pairsTried(r, f) {
			want, wantQ, wantOk := plainUnion(f, p[0], p[1])
			g, q, ok := impl.UnionOf(f, p[0], p[1])
			wantTree(t, fmt.Sprint("UnionOf ", name, p), g, q, ok, want, wantQ, wantOk)
			told[ok]++
			want, wantQ, wantOk = plainWithout(f, p[0], p[1])
			g, q, ok = impl.WithoutOf(f, p[0], p[1])
			wantTree(t, fmt.Sprint("WithoutOf ", name, p), g, q, ok, want, wantQ, wantOk)
			told[ok]++
		}
	}
	if told[true] < 1000 || told[false] < 2 {
		t.Errorf("the pairs try too little: %v", told)
	}
}

// What is put together and taken apart again comes back, where the two had nothing in common.
func TestQuadsPutTogetherAndApart(t *testing.T) {
	r := rand.New(rand.NewSource(18))
	for level := range impl.MaxLevel + 1 {
		side := 1 << level
		one := someCells(r, 0, 0, side, 2*side)
		other := having(someCells(r, 0, 0, side, 2*side), func(c impl.Cell) bool { return !slices.Contains(one, c) })
		f, a, is := impl.TreeOf(impl.NewForest(), level, one)
		f, b, told := impl.TreeOf(f, level, other)
		f, u, ok := impl.UnionOf(f, a, b)
		if !is || !told || !ok {
			t.Fatal(level, one, other)
		}
		l, ok := impl.CellsIn(f, u)
		wantCells(t, fmt.Sprint("both ", level), l, ok, sortCells(slices.Concat(one, other)), true)
		g, k, ok := impl.UnionOf(f, b, a)
		wantTree(t, "the other way", g, k, ok, f, u, true)
		g, k, ok = impl.UnionOf(f, u, a)
		wantTree(t, "with a part of it", g, k, ok, f, u, true)
		g, k, ok = impl.WithoutOf(f, u, b)
		wantTree(t, "without the second", g, k, ok, f, a, true)
		g, k, ok = impl.WithoutOf(f, u, a)
		wantTree(t, "without the first", g, k, ok, f, b, true)
		g, k, ok = impl.WithoutOf(f, a, b)
		wantTree(t, "without what is not there", g, k, ok, f, a, true)
		blank, none, _ := plainTree(f, level, nil)
		g, k, ok = impl.WithoutOf(f, a, u)
		wantTree(t, "without more than it", g, k, ok, blank, none, true)
		g, k, ok = impl.UnionOf(blank, a, none)
		wantTree(t, "with nothing", g, k, ok, blank, a, true)
		g, k, ok = impl.WithoutOf(blank, none, a)
		wantTree(t, "nothing without it", g, k, ok, blank, none, true)
		g, k, ok = impl.WithoutOf(blank, a, none)
		wantTree(t, "without nothing", g, k, ok, blank, a, true)
	}
}

func TestQuadsOfUnlikeLevels(t *testing.T) {
	for name, f := range byName(goodForests()) {
		if len(f.Quads) > 60 {
			continue
		}
		for a := range f.Quads {
			for b := range f.Quads {
				if f.Quads[a].Level == f.Quads[b].Level {
					continue
				}
				g, q, ok := impl.UnionOf(f, a, b)
				wantNoTree(t, fmt.Sprint("UnionOf ", name, a, b), g, q, ok)
				g, q, ok = impl.WithoutOf(f, a, b)
				wantNoTree(t, fmt.Sprint("WithoutOf ", name, a, b), g, q, ok)
			}
		}
	}
}

// boxesTried: boxes within the square, across its edges, beyond it, of one cell, and with from behind to.
func boxesTried(r *rand.Rand, side int) [][2]impl.Cell {
	last, half := side-1, side/2
	boxes := [][2]impl.Cell{
		{at(0, 0), at(last, last)}, {at(-far, -far), at(far, far)}, {at(far, far), at(-far, -far)},
		{at(0, 0), at(0, 0)}, {at(last, last), at(last, last)}, {at(last, 0), at(last, 0)}, {at(half, half), at(half, half)},
		{at(-1, -1), at(0, 0)}, {at(last, last), at(last+1, last+1)}, {at(-1, 0), at(-1, last)}, {at(0, last+1), at(last, last+1)},
		{at(0, -1), at(last, -1)}, {at(last+1, 0), at(last+1, last)},
		{at(half, 0), at(half-1, last)}, {at(0, half), at(last, half-1)}, {at(last, last), at(0, 0)}, {at(0, 0), at(-1, -1)},
		{at(-far, 0), at(far, 0)}, {at(0, -far), at(0, far)}, {at(far, far), at(far, far)}, {at(-far, -far), at(-far, -far)},
	}
	for range 4 {
		from := at(r.Intn(side+8)-4, r.Intn(side+8)-4)
		boxes = append(boxes, [2]impl.Cell{from, at(min(far, from.X+r.Intn(side)-1), min(far, from.Y+r.Intn(side)-1))})
	}
	return boxes
}

func TestClearBoxIsThePlainOne(t *testing.T) {
	r := rand.New(rand.NewSource(19))
	empty, others := 0, 0
	for name, f := range byName(goodForests()) {
		for _, q := range quadsTried(r, f) {
			for _, b := range boxesTried(r, sideOf(f, q)) {
				want, wantQ, wantOk := plainClear(f, q, b[0], b[1])
				g, k, ok := impl.ClearBox(f, q, b[0], b[1])
				what := fmt.Sprint(name, " ", q, b)
				wantTree(t, what, g, k, ok, want, wantQ, wantOk)
				if b[0].X > b[1].X || b[0].Y > b[1].Y {
					wantTree(t, what+" is empty", g, k, ok, f, q, true)
					empty++
				} else if ok && len(g.Quads) > len(f.Quads) {
					others++
				}
			}
		}
	}
	if empty < 500 || others < 500 {
		t.Errorf("the boxes try too little: %d %d", empty, others)
	}
}

func TestABoxCleared(t *testing.T) {
	f, q, ok := impl.TreeOf(impl.NewForest(), 3, slices.Concat(row(0, 0, 8), row(0, 3, 8), row(0, 7, 8)))
	f, q, told := impl.ClearBox(f, q, at(2, 1), at(5, 7))
	l, is := impl.CellsIn(f, q)
	want := slices.Concat(row(0, 0, 8), row(0, 3, 2), row(6, 3, 2), row(0, 7, 2), row(6, 7, 2))
	wantCells(t, "a box", l, ok && told && is, want, true)
	for y := range 8 {
		for x := range 8 {
			in := 2 <= x && x <= 5 && 1 <= y
			alive, ok := impl.GetCell(f, q, at(x, y))
			wantTold(t, fmt.Sprint("a box ", x, y), alive, ok, !in && (y == 0 || y == 3 || y == 7), true)
		}
	}
}

// A box of one cell is that cell set dead.
func TestABoxOfOneCell(t *testing.T) {
	r := rand.New(rand.NewSource(20))
	for name, f := range byName(goodForests()) {
		for _, q := range quadsTried(r, f) {
			for _, c := range cellsTried(r, sideOf(f, q)) {
				want, wantQ, wantOk := impl.SetCell(f, q, c, false)
				g, k, ok := impl.ClearBox(f, q, c, c)
				wantTree(t, fmt.Sprint(name, " ", q, c), g, k, ok, want, wantQ, wantOk)
			}
		}
	}
}

func TestBoxesOutOfReach(t *testing.T) {
	f := tower(impl.MaxLevel)
	for q := range f.Quads {
		for _, c := range badCells() {
			for _, d := range (cells{at(0, 0), at(far, far), at(-far, -far), c}) {
				g, k, ok := impl.ClearBox(f, q, c, d)
				wantNoTree(t, fmt.Sprint(q, c, d), g, k, ok)
				g, k, ok = impl.ClearBox(f, q, d, c)
				wantNoTree(t, fmt.Sprint(q, d, c), g, k, ok)
			}
		}
		for _, c := range (cells{at(far, -far), at(-far, far), at(far, far), at(-far, -far)}) {
			g, k, ok := impl.ClearBox(f, q, c, c)
			wantTree(t, fmt.Sprint("at Far ", q, c), g, k, ok, f, q, true)
		}
	}
}

func TestCentreAndFrameAreThePlainOnes(t *testing.T) {
	r := rand.New(rand.NewSource(21))
	told := map[bool]int{}
	for name, f := range byName(goodForests()) {
		for _, q := range quadsTried(r, f) {
			what := fmt.Sprint(name, " ", q, " of Level ", f.Quads[q].Level)
			want, wantQ, wantOk := plainCentre(f, q)
			g, k, ok := impl.CentreOf(f, q)
			wantTree(t, "CentreOf "+what, g, k, ok, want, wantQ, wantOk)
			told[ok]++
			want, wantQ, wantOk = plainFrame(f, q)
			g, k, ok = impl.FrameOf(f, q)
			wantTree(t, "FrameOf "+what, g, k, ok, want, wantQ, wantOk)
			told[ok]++
		}
	}
	if told[true] < 500 || told[false] < 100 {
		t.Errorf("the quads try too little: %v", told)
	}
}

// From which Level on, and up to which, each of them tells true.
func TestLevelsOfCentreAndFrame(t *testing.T) {
	f, q := impl.NewForest(), 1
	for level := 0; level <= impl.MaxLevel; level++ {
		if level > 0 {
			f, q, _ = impl.JoinQuads(f, []int{q, q, q, q})
		}
		for _, n := range []int{q, 0} {
			if n == 0 && level > 0 {
				continue
			}
			_, _, ok := impl.CentreOf(f, n)
			wantTold(t, fmt.Sprint("CentreOf ", level), ok, ok, level >= 2, level >= 2)
			_, _, ok = impl.FrameOf(f, n)
			may := 1 <= level && level < impl.MaxLevel
			wantTold(t, fmt.Sprint("FrameOf ", level), ok, ok, may, may)
			is, ok := impl.IsFramed(f, n)
			wantTold(t, fmt.Sprint("IsFramed ", level), is, ok, false, level >= 2)
		}
	}
}

// Promise 4: a tree that is framed has itself in its middle.
func TestAFramedTreeHasItselfInItsMiddle(t *testing.T) {
	r := rand.New(rand.NewSource(22))
	framed := 0
	for name, f := range byName(goodForests()) {
		for _, q := range quadsTried(r, f) {
			g, k, ok := impl.FrameOf(f, q)
			if !ok {
				continue
			}
			framed++
			what := fmt.Sprint(name, " ", q)
			h, n, ok := impl.CentreOf(g, k)
			wantTree(t, what, h, n, ok, g, q, true)
			is, ok := impl.IsFramed(g, k)
			wantTold(t, what, is, ok, true, true)
			many, _ := impl.CountOf(f, q)
			if n, ok := impl.CountOf(g, k); n != many || !ok {
				t.Errorf("%s: there are %d cells, framed %d", what, many, n)
			}
			if !impl.GoodForest(g) || !sameForest(impl.Forest{Quads: g.Quads[:len(f.Quads)]}, f) {
				t.Errorf("%s: the forest is spoilt: %v", what, g)
			}
		}
	}
	if framed < 300 {
		t.Errorf("the quads try too little: %d", framed)
	}
}

func TestIsFramed(t *testing.T) {
	r := rand.New(rand.NewSource(23))
	for name, f := range byName(goodForests()) {
		for _, q := range quadsTried(r, f) {
			what := fmt.Sprint(name, " ", q)
			want, wantOk := plainFramed(f, q)
			is, ok := impl.IsFramed(f, q)
			wantTold(t, what, is, ok, want, wantOk)
			g, k, told := impl.CentreOf(f, q)
			if !told {
				continue
			}
			if _, n, told := impl.FrameOf(g, k); told && (n == q) != is {
				t.Errorf("%s: told %v, but FrameOf CentreOf %d is %d", what, is, q, n)
			}
		}
	}
}

// One cell at each place of each square: the middle begins at a quarter of the side, and ends ahead of three.
func TestIsFramedAtEveryCell(t *testing.T) {
	for level := 2; level <= impl.MaxLevel; level++ {
		side := 1 << level
		for y := range side {
			for x := range side {
				f, q, told := impl.TreeOf(impl.NewForest(), level, cells{at(x, y)})
				in := side/4 <= min(x, y) && max(x, y) < side*3/4
				is, ok := impl.IsFramed(f, q)
				wantTold(t, fmt.Sprint("level ", level, at(x, y)), is, ok && told, in, true)
				var want cells
				if in {
					want = cells{at(x-side/4, y-side/4)}
				}
				g, k, ok := impl.CentreOf(f, q)
				l, told := impl.CellsIn(g, k)
				wantCells(t, fmt.Sprint("level ", level, at(x, y)), l, ok && told, want, true)
			}
		}
		f, q, _ := impl.BlankOf(impl.NewForest(), level)
		is, ok := impl.IsFramed(f, q)
		wantTold(t, fmt.Sprint("blank ", level), is, ok, true, true)
		g, k, ok := impl.CentreOf(f, q)
		wantTree(t, fmt.Sprint("blank ", level), g, k, ok, f, q-1, true)
	}
}

// The dead and the living cell are the quads of Level 0: they are told by their numbers, and none is made.
func TestChangesOfLevel0(t *testing.T) {
	for name, f := range byName(goodForests()) {
		for q := range 2 {
			is, ok := impl.GetCell(f, q, at(0, 0))
			wantTold(t, name, is, ok, q == 1, true)
			for n, alive := range []bool{false, true} {
				g, k, ok := impl.SetCell(f, q, at(0, 0), alive)
				wantTree(t, name, g, k, ok, f, n, true)
			}
			for b := range 2 {
				g, k, ok := impl.UnionOf(f, q, b)
				wantTree(t, name, g, k, ok, f, max(q, b), true)
				g, k, ok = impl.WithoutOf(f, q, b)
				wantTree(t, name, g, k, ok, f, max(q-b, 0), true)
			}
			g, k, ok := impl.ClearBox(f, q, at(0, 0), at(0, 0))
			wantTree(t, name, g, k, ok, f, 0, true)
			g, k, ok = impl.ClearBox(f, q, at(-far, -far), at(far, far))
			wantTree(t, name, g, k, ok, f, 0, true)
			g, k, ok = impl.ClearBox(f, q, at(1, 0), at(far, far))
			wantTree(t, name, g, k, ok, f, q, true)
			g, k, ok = impl.CentreOf(f, q)
			wantNoTree(t, name, g, k, ok)
			g, k, ok = impl.FrameOf(f, q)
			wantNoTree(t, name, g, k, ok)
			is, ok = impl.IsFramed(f, q)
			wantTold(t, name, is, ok, false, false)
		}
	}
}

// Kids in order, each ahead of what it is a kid of, written out.
func TestTheOrderOfChanges(t *testing.T) {
	f := forestOf([5]int{1, 0, 0, 0, 0}, [5]int{2, 2, 2, 2, 2}, [5]int{3, 3, 3, 3, 3})
	g, q, ok := impl.SetCell(f, 4, at(5, 2), true)
	want := forestOf([5]int{1, 0, 0, 0, 0}, [5]int{2, 2, 2, 2, 2}, [5]int{3, 3, 3, 3, 3},
		[5]int{1, 0, 1, 0, 0}, [5]int{2, 2, 2, 5, 2}, [5]int{3, 3, 6, 3, 3})
	wantTree(t, "SetCell", g, q, ok, want, 7, true)

	f = forestOf([5]int{1, 1, 0, 0, 0}, [5]int{1, 0, 1, 0, 0}, [5]int{2, 2, 2, 2, 2}, [5]int{2, 3, 3, 3, 2})
	g, q, ok = impl.UnionOf(f, 4, 5)
	want = copyForest(f)
	want.Quads = append(want.Quads, forestOf([5]int{1, 1, 1, 0, 0}, [5]int{2, 6, 6, 6, 2}).Quads[2:]...)
	wantTree(t, "UnionOf", g, q, ok, want, 7, true)
	g, q, ok = impl.WithoutOf(f, 4, 5)
	want = copyForest(f)
	want.Quads = append(want.Quads, forestOf([5]int{1, 0, 0, 0, 0}, [5]int{2, 2, 2, 2, 6}).Quads[2:]...)
	wantTree(t, "WithoutOf", g, q, ok, want, 7, true)

	f = forestOf([5]int{1, 1, 1, 1, 1}, [5]int{2, 2, 2, 2, 2})
	g, q, ok = impl.ClearBox(f, 3, at(1, 1), at(2, 2))
	want = forestOf([5]int{1, 1, 1, 1, 1}, [5]int{2, 2, 2, 2, 2}, [5]int{1, 1, 1, 1, 0}, [5]int{1, 1, 1, 0, 1},
		[5]int{1, 1, 0, 1, 1}, [5]int{1, 0, 1, 1, 1}, [5]int{2, 4, 5, 6, 7})
	wantTree(t, "ClearBox", g, q, ok, want, 8, true)
	h, q, ok := impl.CentreOf(g, 8)
	want.Quads = append(want.Quads, impl.Quad{Level: 1, Kids: []int{0, 0, 0, 0}})
	wantTree(t, "CentreOf", h, q, ok, want, 9, true)
}

func TestTheOrderOfAFrame(t *testing.T) {
	g, q, ok := impl.FrameOf(forestOf([5]int{1, 1, 0, 0, 1}), 2)
	want := forestOf([5]int{1, 1, 0, 0, 1}, [5]int{1, 0, 0, 0, 1}, [5]int{1, 0, 0, 0, 0}, [5]int{1, 1, 0, 0, 0}, [5]int{2, 3, 4, 4, 5})
	wantTree(t, "of Level 1", g, q, ok, want, 6, true)
	g, q, ok = impl.FrameOf(forestOf([5]int{1, 1, 1, 1, 1}, [5]int{2, 2, 2, 2, 2}), 3)
	want = forestOf([5]int{1, 1, 1, 1, 1}, [5]int{2, 2, 2, 2, 2}, [5]int{1, 0, 0, 0, 0},
		[5]int{2, 4, 4, 4, 2}, [5]int{2, 4, 4, 2, 4}, [5]int{2, 4, 2, 4, 4}, [5]int{2, 2, 4, 4, 4}, [5]int{3, 5, 6, 7, 8})
	wantTree(t, "of Level 2, no blank one there", g, q, ok, want, 9, true)
	f := tower(impl.MaxLevel)
	g, q, ok = impl.FrameOf(f, impl.MaxLevel)
	wantTree(t, "blank, of MaxLevel less 1", g, q, ok, f, impl.MaxLevel+1, true)
}

// treeCalls: all calls of chapter 4 that tell a forest, each of q and of what else it asks for.
func treeCalls() map[string]func(f impl.Forest, q int) (impl.Forest, int, bool) {
	return map[string]func(f impl.Forest, q int) (impl.Forest, int, bool){
		"SetCell alive":   func(f impl.Forest, q int) (impl.Forest, int, bool) { return impl.SetCell(f, q, at(0, 0), true) },
		"SetCell dead":    func(f impl.Forest, q int) (impl.Forest, int, bool) { return impl.SetCell(f, q, at(1, 1), false) },
		"UnionOf it":      func(f impl.Forest, q int) (impl.Forest, int, bool) { return impl.UnionOf(f, q, q) },
		"UnionOf 1":       func(f impl.Forest, q int) (impl.Forest, int, bool) { return impl.UnionOf(f, q, 1) },
		"UnionOf, 2nd":    func(f impl.Forest, q int) (impl.Forest, int, bool) { return impl.UnionOf(f, 2, q) },
		"WithoutOf it":    func(f impl.Forest, q int) (impl.Forest, int, bool) { return impl.WithoutOf(f, q, q) },
		"WithoutOf 1":     func(f impl.Forest, q int) (impl.Forest, int, bool) { return impl.WithoutOf(f, q, 1) },
		"WithoutOf, 2nd":  func(f impl.Forest, q int) (impl.Forest, int, bool) { return impl.WithoutOf(f, 2, q) },
		"ClearBox":        func(f impl.Forest, q int) (impl.Forest, int, bool) { return impl.ClearBox(f, q, at(-1, 0), at(4, 2)) },
		"ClearBox, empty": func(f impl.Forest, q int) (impl.Forest, int, bool) { return impl.ClearBox(f, q, at(1, 1), at(0, 0)) },
		"CentreOf":        impl.CentreOf,
		"FrameOf":         impl.FrameOf,
	}
}

func TestChangesOfBadForests(t *testing.T) {
	for name, f := range byName(badForests()) {
		for _, q := range []int{-1, 0, 1, 2, 3, len(f.Quads) - 1, len(f.Quads)} {
			for call, do := range treeCalls() {
				g, k, ok := do(f, q)
				wantNoTree(t, fmt.Sprint(call, " ", name, " ", q), g, k, ok)
			}
			is, ok := impl.GetCell(f, q, at(0, 0))
			wantTold(t, fmt.Sprint("GetCell ", name, " ", q), is, ok, false, false)
			is, ok = impl.IsFramed(f, q)
			wantTold(t, fmt.Sprint("IsFramed ", name, " ", q), is, ok, false, false)
		}
	}
}

func TestChangesOfNumbersOutOfTheForest(t *testing.T) {
	for name, f := range byName(goodForests()) {
		n := len(f.Quads)
		for _, q := range wrongNumbers(n) {
			if 0 <= q && q < n {
				continue
			}
			for call, do := range treeCalls() {
				g, k, ok := do(f, q)
				wantNoTree(t, fmt.Sprint(call, " ", name, " ", q), g, k, ok)
			}
			for _, p := range [][2]int{{q, 0}, {0, q}, {q, n - 1}, {n - 1, q}} {
				g, k, ok := impl.UnionOf(f, p[0], p[1])
				wantNoTree(t, fmt.Sprint("UnionOf ", name, p), g, k, ok)
				g, k, ok = impl.WithoutOf(f, p[0], p[1])
				wantNoTree(t, fmt.Sprint("WithoutOf ", name, p), g, k, ok)
			}
			is, ok := impl.GetCell(f, q, at(0, 0))
			wantTold(t, fmt.Sprint("GetCell ", name, " ", q), is, ok, false, false)
			is, ok = impl.IsFramed(f, q)
			wantTold(t, fmt.Sprint("IsFramed ", name, " ", q), is, ok, false, false)
		}
	}
}

// roomFor: a forest of n quads, two of them of MaxLevel less 1 with these cells, and which two; others of Level 2 fill it up.
func roomFor(t *testing.T, n int, one, other cells) (impl.Forest, int, int) {
	t.Helper()
	f := manyQuads(18)
	f, a, is := impl.TreeOf(f, impl.MaxLevel-1, one)
	f, b, ok := impl.TreeOf(f, impl.MaxLevel-1, other)
	if !is || !ok || len(f.Quads) > n {
		t.Fatal("no such forest:", n, is, ok)
	}
	for i := 0; len(f.Quads) < n; i++ {
		f, _, _ = impl.JoinQuads(f, manyQuads(i + 19).Quads[i+18].Kids)
	}
	return f, a, b
}

// What needs just the room there is is made; with one quad less of room nothing is told.
func TestChangesAtMaxNodes(t *testing.T) {
	r := rand.New(rand.NewSource(24))
	one, other := someCells(r, 0, 0, 16, 60), someCells(r, 0, 0, 16, 60)
	just, over := map[string]int{}, map[string]int{}
	for n := impl.MaxNodes - 50; n <= impl.MaxNodes; n++ {
		f, a, b := roomFor(t, n, one, other)
		try := func(what string, g impl.Forest, q int, ok bool, want impl.Forest, wantQ int, wantOk bool) {
			wantTree(t, fmt.Sprint(what, " quads ", n), g, q, ok, want, wantQ, wantOk)
			if ok && len(g.Quads) == impl.MaxNodes && n < impl.MaxNodes {
				just[what]++
			}
			if !ok {
				over[what]++
			}
		}
		want, wantQ, wantOk := plainSet(f, a, at(3, 7), !slices.Contains(one, at(3, 7)))
		g, q, ok := impl.SetCell(f, a, at(3, 7), !slices.Contains(one, at(3, 7)))
		try("SetCell", g, q, ok, want, wantQ, wantOk)
		want, wantQ, wantOk = plainUnion(f, a, b)
		g, q, ok = impl.UnionOf(f, a, b)
		try("UnionOf", g, q, ok, want, wantQ, wantOk)
		want, wantQ, wantOk = plainWithout(f, a, b)
		g, q, ok = impl.WithoutOf(f, a, b)
		try("WithoutOf", g, q, ok, want, wantQ, wantOk)
		want, wantQ, wantOk = plainClear(f, a, at(3, 5), at(12, 10))
		g, q, ok = impl.ClearBox(f, a, at(3, 5), at(12, 10))
		try("ClearBox", g, q, ok, want, wantQ, wantOk)
		want, wantQ, wantOk = plainCentre(f, a)
		g, q, ok = impl.CentreOf(f, a)
		try("CentreOf", g, q, ok, want, wantQ, wantOk)
		want, wantQ, wantOk = plainFrame(f, a)
		g, q, ok = impl.FrameOf(f, a)
		try("FrameOf", g, q, ok, want, wantQ, wantOk)
	}
	for _, what := range []string{"SetCell", "UnionOf", "WithoutOf", "ClearBox", "CentreOf", "FrameOf"} {
		if just[what] != 1 || over[what] == 0 {
			t.Errorf("%s: made with just the room there is %d times, refused %d times", what, just[what], over[what])
		}
	}
}

// A full forest tells what is in it as ever, and what it comes to where that is there.
func TestChangesThatAreThereAtMaxNodes(t *testing.T) {
	one := shifted(someCells(rand.New(rand.NewSource(25)), 0, 0, 8, 20), 4)
	f, a, b := roomFor(t, impl.MaxNodes, one, having(one, func(c impl.Cell) bool { return c.Y < 9 }))
	g, q, ok := impl.SetCell(f, a, one[0], true)
	wantTree(t, "SetCell", g, q, ok, f, a, true)
	g, q, ok = impl.UnionOf(f, a, b)
	wantTree(t, "UnionOf", g, q, ok, f, a, true)
	g, q, ok = impl.ClearBox(f, a, at(0, 9), at(15, 15))
	wantTree(t, "ClearBox", g, q, ok, f, b, true)
	is, ok := impl.GetCell(f, a, one[0])
	wantTold(t, "GetCell", is, ok, true, true)
	for _, q := range []int{a, b} {
		_, _, ok := impl.CentreOf(f, q)
		wantTold(t, "CentreOf has no room", ok, ok, false, false)
		is, ok := impl.IsFramed(f, q)
		wantTold(t, "IsFramed needs no room", is, ok, true, true)
	}
	g, q, ok = impl.UnionOf(f, 17, 5)
	wantTree(t, "UnionOf Level 1", g, q, ok, f, 17, true)
	g, q, ok = impl.WithoutOf(f, 17, 17)
	wantTree(t, "WithoutOf Level 1", g, q, ok, f, 2, true)
	if f.Quads[18].Level != 2 {
		t.Fatal(f.Quads[18])
	}
	want, wantQ, _ := plainCentre(f, 18)
	g, q, ok = impl.CentreOf(f, 18)
	wantTree(t, "CentreOf Level 2", g, q, ok, want, wantQ, true)
}

func TestChangesWriteIntoNothingAndShareNothing(t *testing.T) {
	r := rand.New(rand.NewSource(26))
	for name, f := range byName(smallForests()) {
		given, whole := guardedForest(f)
		before := written(whole)
		for _, q := range append(quadsTried(r, f), -1, len(f.Quads), len(f.Quads)+2) {
			for call, do := range treeCalls() {
				what := fmt.Sprint(call, " ", name, " ", q)
				g, k, ok := do(given, q)
				want, wantQ, wantOk := do(copyForest(f), q)
				wantTree(t, what+": what lies behind is read", g, k, ok, want, wantQ, wantOk)
				wantApart(t, what, slices.Concat(spansOf(g.Quads), spansOf(want.Quads), spansOf(whole)))
			}
			is, ok := impl.GetCell(given, q, at(0, 0))
			want, wantOk := impl.GetCell(copyForest(f), q, at(0, 0))
			wantTold(t, fmt.Sprint("GetCell ", name, " ", q), is, ok, want, wantOk)
			is, ok = impl.IsFramed(given, q)
			want, wantOk = impl.IsFramed(copyForest(f), q)
			wantTold(t, fmt.Sprint("IsFramed ", name, " ", q), is, ok, want, wantOk)
		}
		if written(whole) != before {
			t.Fatalf("%s: the argument's memory is written", name)
		}
	}
}

// An answer that is written over changes neither the forest it came from nor the next answer.
func TestChangesThatAreSpoilt(t *testing.T) {
	f := tower(impl.MaxLevel)
	before := copyForest(f)
	for call, do := range treeCalls() {
		for q := range f.Quads {
			g, k, ok := do(f, q)
			kept := copyForest(g)
			for i := range g.Quads {
				clear(g.Quads[i].Kids[:cap(g.Quads[i].Kids)])
			}
			clear(g.Quads[:cap(g.Quads)])
			h, n, told := do(f, q)
			wantTree(t, fmt.Sprint(call, " ", q), h, n, told, kept, k, ok)
			if !sameForest(f, before) {
				t.Fatalf("%s %d: the argument's memory is the answer's", call, q)
			}
		}
	}
}

// A function that leant on the order of a map would tell other forests now and then.
func TestTheSameChangeAgain(t *testing.T) {
	r := rand.New(rand.NewSource(27))
	f, a, is := impl.TreeOf(manyQuads(18), impl.MaxLevel, someCells(r, 0, 0, 32, 80))
	f, b, told := impl.TreeOf(f, impl.MaxLevel, someCells(r, 0, 0, 32, 80))
	g, q, ok := impl.UnionOf(f, a, b)
	if !is || !told || !ok || len(g.Quads) < len(f.Quads)+10 {
		t.Fatal(is, told, ok)
	}
	for range 20 {
		h, k, told := impl.UnionOf(f, a, b)
		wantTree(t, "once more", h, k, told, g, q, ok)
	}
}
