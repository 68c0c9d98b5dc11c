package tests

import (
	"math/rand"
	"slices"
	"testing"

	"loop.example/g00613/impl"
)

type cells = []impl.Cell

func at(x, y int) impl.Cell { return impl.Cell{X: x, Y: y} }

// row: the cells from x on, side by side, so many.
func row(x, y, long int) cells {
	var l cells
	for i := range long {
		l = append(l, at(x+i, y))
	}
	return l
}

// wide: the first n cells of rows of 81, from the least good cell on: good ones as far as they may be many.
func wide(n int) cells {
	var l cells
	for i := range n {
		l = append(l, at(i%81-impl.Far, i/81-impl.Far))
	}
	return l
}

// sortCells: in the order of chapter 1, each once, reckoned without the program.
func sortCells(l cells) cells {
	l = slices.Clone(l)
	slices.SortFunc(l, func(a, b impl.Cell) int {
		return (a.Y-b.Y)*100000 + a.X - b.X
	})
	return slices.Compact(l)
}

// someCells: about n cells in order, in a square of that side from x and y on.
func someCells(r *rand.Rand, x, y, side, n int) cells {
	var l cells
	for range n {
		l = append(l, at(x+r.Intn(side), y+r.Intn(side)))
	}
	return sortCells(l)
}

// wantCells: fails unless the answer is these cells and that told.
func wantCells(t *testing.T, what string, got cells, ok bool, want cells, wantOk bool) {
	t.Helper()
	if ok != wantOk || !slices.Equal(got, want) {
		t.Errorf("%s: got %v %v, want %v %v", what, got, ok, want, wantOk)
	}
}

// guarded: a copy of the list that has strange cells behind its length in its memory, and all of that memory.
func guarded(l cells) (cells, cells) {
	whole := make(cells, len(l)+8)
	copy(whole, l)
	for i := len(l); i < len(whole); i++ {
		whole[i] = at(7000+i, -7000-i)
	}
	return whole[:len(l)], whole
}

// spoil: writes over all of an answer's memory.
func spoil(l cells) {
	l = l[:cap(l)]
	for i := range l {
		l[i] = at(9999, 9999)
	}
}
