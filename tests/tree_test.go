package tests

import (
	"fmt"
	"math"
	"math/rand"
	"slices"
	"strings"
	"testing"
	"unsafe"

	"loop.example/g00613/impl"
)

// forestOf: a forest of the two cells and of quads with these levels and kids, written out: level, then four kids.
func forestOf(quads ...[5]int) impl.Forest {
	f := impl.Forest{Quads: make([]impl.Quad, 2)}
	for _, q := range quads {
		f.Quads = append(f.Quads, impl.Quad{Level: q[0], Kids: slices.Clone(q[1:])})
	}
	return f
}

// copyForest: the same forest in other memory.
func copyForest(f impl.Forest) impl.Forest {
	var c impl.Forest
	for _, q := range f.Quads {
		c.Quads = append(c.Quads, impl.Quad{Level: q.Level, Kids: slices.Clone(q.Kids)})
	}
	return c
}

func sameForest(a, b impl.Forest) bool {
	return slices.EqualFunc(a.Quads, b.Quads, func(p, q impl.Quad) bool {
		return p.Level == q.Level && slices.Equal(p.Kids, q.Kids)
	})
}

// manyQuads: a good forest of n quads, 18 at least: all sixteen of Level 1, then those of Level 2 by their kids.
func manyQuads(n int) impl.Forest {
	f := impl.Forest{Quads: make([]impl.Quad, 2)}
	for i := range n - 2 {
		of, from, level := 2, 0, 1
		if i >= 16 {
			i, of, from, level = i-16, 16, 2, 2
		}
		kids := []int{from + i/of/of/of%of, from + i/of/of%of, from + i/of%of, from + i%of}
		f.Quads = append(f.Quads, impl.Quad{Level: level, Kids: kids})
	}
	return f
}

// tower: blank quads of Level 1 up to that level, 2 being of Level 1 and so on, then a full one of Level 1.
func tower(level int) impl.Forest {
	f := impl.Forest{Quads: make([]impl.Quad, 2)}
	for k := 1; k <= level; k++ {
		below := k
		if k == 1 {
			below = 0
		}
		f.Quads = append(f.Quads, impl.Quad{Level: k, Kids: []int{below, below, below, below}})
	}
	f.Quads = append(f.Quads, impl.Quad{Level: 1, Kids: []int{1, 1, 1, 1}})
	return f
}

// someForest: a good forest of n quads or some less, of all levels, each with kids taken by chance.
func someForest(r *rand.Rand, n int) impl.Forest {
	f := tower(r.Intn(impl.MaxLevel + 1))
	for len(f.Quads) < n {
		level := r.Intn(impl.MaxLevel)
		var may []int
		for i, q := range f.Quads {
			if q.Level == level {
				may = append(may, i)
			}
		}
		if len(may) == 0 {
			continue
		}
		kids := make([]int, 4)
		for i := range kids {
			kids[i] = may[r.Intn(len(may))]
		}
		f.Quads = append(f.Quads, impl.Quad{Level: level + 1, Kids: kids})
		if slices.ContainsFunc(f.Quads[:len(f.Quads)-1], func(q impl.Quad) bool { return slices.Equal(q.Kids, kids) }) {
			f.Quads = f.Quads[:len(f.Quads)-1]
			n--
		}
	}
	return f
}

// goodForests: forests that are good, small and great.
func goodForests() map[string]impl.Forest {
	r := rand.New(rand.NewSource(6))
	all := map[string]impl.Forest{
		"the two cells":       forestOf(),
		"kids empty, not nil": {Quads: []impl.Quad{{Kids: []int{}}, {Kids: []int{}}}},
		"one square":          forestOf([5]int{1, 1, 0, 0, 1}),
		"up to MaxLevel":      tower(impl.MaxLevel),
		"all of Level 1":      manyQuads(18),
		"MaxNodes less 1":     manyQuads(impl.MaxNodes - 1),
		"MaxNodes":            manyQuads(impl.MaxNodes),
		"kids in other order": forestOf([5]int{1, 1, 0, 0, 0}, [5]int{1, 0, 1, 0, 0}, [5]int{2, 2, 3, 2, 3}, [5]int{2, 3, 2, 3, 2}),
		"a lower level last":  forestOf([5]int{1, 1, 1, 1, 1}, [5]int{2, 2, 2, 2, 2}, [5]int{1, 0, 0, 0, 0}),
	}
	for i := range 30 {
		all[fmt.Sprint("by chance ", i)] = someForest(r, 10+r.Intn(120))
	}
	return all
}

// badForests: forests that are not good, each for one reason.
func badForests() map[string]impl.Forest {
	withQuad := func(n, level int, kids ...int) impl.Forest {
		f := forestOf()
		f.Quads[n] = impl.Quad{Level: level, Kids: kids}
		return f
	}
	lastSpoilt := manyQuads(impl.MaxNodes)
	lastSpoilt.Quads[impl.MaxNodes-1].Level = 3
	lastAgain := manyQuads(impl.MaxNodes)
	lastAgain.Quads[impl.MaxNodes-1].Kids = slices.Clone(lastAgain.Quads[18].Kids)
	beyond := tower(impl.MaxLevel)
	beyond.Quads = append(beyond.Quads, impl.Quad{Level: impl.MaxLevel + 1, Kids: []int{6, 6, 6, 6}})
	all := map[string]impl.Forest{
		"no quads":               {},
		"empty quads":            {Quads: []impl.Quad{}},
		"a dead cell alone":      {Quads: make([]impl.Quad, 1)},
		"0 of Level 1":           withQuad(0, 1),
		"0 of Level -1":          withQuad(0, -1),
		"1 of Level 1":           withQuad(1, 1),
		"1 of Level -1":          withQuad(1, -1),
		"0 with a kid":           withQuad(0, 0, 0),
		"0 with kids":            withQuad(0, 0, 0, 0, 0, 0),
		"1 with a kid":           withQuad(1, 0, 0),
		"1 with kids":            withQuad(1, 0, 0, 0, 0, 0),
		"1 as a square":          withQuad(1, 1, 0, 0, 0, 0),
		"a third cell":           {Quads: make([]impl.Quad, 3)},
		"no kids":                {Quads: []impl.Quad{{}, {}, {Level: 1}}},
		"a kid":                  {Quads: []impl.Quad{{}, {}, {Level: 1, Kids: []int{1}}}},
		"three kids":             {Quads: []impl.Quad{{}, {}, {Level: 1, Kids: []int{0, 1, 0}}}},
		"five kids":              {Quads: []impl.Quad{{}, {}, {Level: 1, Kids: []int{0, 1, 0, 1, 0}}}},
		"eight kids":             {Quads: []impl.Quad{{}, {}, {Level: 1, Kids: []int{0, 1, 0, 1, 0, 1, 0, 1}}}},
		"kids behind it":         forestOf([5]int{2, 3, 3, 3, 3}, [5]int{1, 0, 0, 0, 0}),
		"itself as kids":         forestOf([5]int{1, 2, 2, 2, 2}),
		"itself among kids":      forestOf([5]int{1, 1, 1, 1, 1}, [5]int{2, 2, 2, 2, 3}),
		"kids in a ring":         forestOf([5]int{1, 3, 3, 3, 3}, [5]int{1, 2, 2, 2, 2}),
		"Level too small":        forestOf([5]int{0, 1, 0, 0, 1}),
		"Level below 0":          forestOf([5]int{-1, 1, 0, 0, 1}),
		"Level too great":        forestOf([5]int{2, 1, 0, 0, 1}),
		"the greatest Level":     forestOf([5]int{math.MaxInt, 1, 0, 0, 1}),
		"the least Level":        forestOf([5]int{math.MinInt, 1, 0, 0, 1}),
		"Level 1 of Level 1":     forestOf([5]int{1, 1, 1, 1, 1}, [5]int{1, 2, 2, 2, 2}),
		"Level 3 of Level 1":     forestOf([5]int{1, 1, 1, 1, 1}, [5]int{3, 2, 2, 2, 2}),
		"beyond MaxLevel":        beyond,
		"the same kids twice":    forestOf([5]int{1, 1, 0, 0, 1}, [5]int{1, 1, 0, 0, 1}),
		"the same, further on":   forestOf([5]int{1, 1, 0, 0, 1}, [5]int{1, 1, 0, 0, 0}, [5]int{2, 2, 3, 2, 3}, [5]int{1, 1, 0, 0, 1}),
		"the same of Level 2":    forestOf([5]int{1, 0, 0, 0, 0}, [5]int{2, 2, 2, 2, 2}, [5]int{2, 2, 2, 2, 2}),
		"too many":               manyQuads(impl.MaxNodes + 1),
		"far too many":           manyQuads(20 * impl.MaxNodes),
		"the last of MaxNodes":   lastSpoilt,
		"MaxNodes, one twice":    lastAgain,
		"nothing but cells, 400": {Quads: make([]impl.Quad, impl.MaxNodes)},
	}
	for i := range 4 {
		unlike := [5]int{2, 2, 2, 2, 2}
		unlike[1+i] = 0
		all[fmt.Sprint("kid of a lesser level ", i)] = forestOf([5]int{1, 1, 1, 1, 1}, unlike)
		unlike = [5]int{1, 0, 0, 0, 0}
		unlike[1+i] = 2
		all[fmt.Sprint("kid of a greater level ", i)] = forestOf([5]int{1, 1, 1, 1, 1}, unlike)
		for _, k := range []int{-1, 2, 3, 1000, math.MinInt, math.MaxInt} {
			out := [5]int{1, 1, 1, 1, 1}
			out[1+i] = k
			all[fmt.Sprint("kid ", i, " out of the forest: ", k)] = forestOf(out)
		}
	}
	return all
}

// pictures: each quad of a good forest as rows of signs, put together from its kids.
func pictures(f impl.Forest) []string {
	all := []string{".", "#"}
	for _, q := range f.Quads[2:] {
		var rows []string
		for half := range 2 {
			left := strings.Split(all[q.Kids[2*half]], "\n")
			right := strings.Split(all[q.Kids[2*half+1]], "\n")
			for y := range left {
				rows = append(rows, left[y]+right[y])
			}
		}
		all = append(all, strings.Join(rows, "\n"))
	}
	return all
}

// cellsOfPicture: the cells of rows of signs.
func cellsOfPicture(picture string) cells {
	var l cells
	for y, signs := range strings.Split(picture, "\n") {
		for x := range signs {
			if signs[x] == '#' {
				l = append(l, at(x, y))
			}
		}
	}
	return l
}

// plainTree: TreeOf by the words of the document: squares are the same if their pictures are.
func plainTree(f impl.Forest, level int, l cells) (impl.Forest, int, bool) {
	f = copyForest(f)
	number := map[string]int{}
	for i, p := range pictures(f) {
		number[p] = i
	}
	alive := map[impl.Cell]bool{}
	for _, c := range l {
		alive[c] = true
	}
	var grow func(level, x, y int) int
	grow = func(level, x, y int) int {
		var rows []string
		side := 1 << level
		for v := y; v < y+side; v++ {
			signs := ""
			for u := x; u < x+side; u++ {
				if alive[at(u, v)] {
					signs += "#"
				} else {
					signs += "."
				}
			}
			rows = append(rows, signs)
		}
		picture := strings.Join(rows, "\n")
		if n, ok := number[picture]; ok {
			return n
		}
		kids := []int{
			grow(level-1, x, y), grow(level-1, x+side/2, y),
			grow(level-1, x, y+side/2), grow(level-1, x+side/2, y+side/2),
		}
		number[picture] = len(f.Quads)
		f.Quads = append(f.Quads, impl.Quad{Level: level, Kids: kids})
		return number[picture]
	}
	q := grow(level, 0, 0)
	if len(f.Quads) > impl.MaxNodes {
		return impl.Forest{}, 0, false
	}
	return f, q, true
}

// treeLists: good cells in the squares, across their edges, and wholly outside of them.
func treeLists() []cells {
	r := rand.New(rand.NewSource(7))
	lists := []cells{nil, {}, blinker, block, glider, wide(impl.MaxCells), row(0, 0, 41), {at(0, 0)}, {at(-1, -1)}}
	for i := range 150 {
		side := 1 + r.Intn(40)
		x, y := 0, 0
		if i%3 == 1 {
			x, y = r.Intn(20)-10, r.Intn(20)-10
		}
		lists = append(lists, someCells(r, x, y, min(side, far+1-max(x, y)), 1+r.Intn(impl.MaxCells)))
	}
	return lists
}

func wantTree(t *testing.T, what string, f impl.Forest, q int, ok bool, want impl.Forest, wantQ int, wantOk bool) {
	t.Helper()
	if ok != wantOk || q != wantQ || !sameForest(f, want) {
		t.Errorf("%s: got %v %d %v, want %v %d %v", what, f, q, ok, want, wantQ, wantOk)
	}
}

// wantNoTree: fails unless the answer is the zero one.
func wantNoTree(t *testing.T, what string, f impl.Forest, q int, ok bool) {
	t.Helper()
	if len(f.Quads) != 0 || q != 0 || ok {
		t.Errorf("%s: got %v %d %v, want nothing", what, f, q, ok)
	}
}

// wantAsked: fails unless all that may be asked of a quad is told so.
func wantAsked(t *testing.T, what string, f impl.Forest, q int, l cells, level int, shared []int, wantOk bool) {
	t.Helper()
	got, ok := impl.CellsIn(f, q)
	wantCells(t, "CellsIn "+what, got, ok, l, wantOk)
	if n, ok := impl.CountOf(f, q); n != len(l) || ok != wantOk {
		t.Errorf("CountOf %s: got %d %v, want %d %v", what, n, ok, len(l), wantOk)
	}
	if n, ok := impl.LevelOf(f, q); n != level || ok != wantOk {
		t.Errorf("LevelOf %s: got %d %v, want %d %v", what, n, ok, level, wantOk)
	}
	if s, ok := impl.SharedIn(f, q); !slices.Equal(s, shared) || ok != wantOk {
		t.Errorf("SharedIn %s: got %v %v, want %v %v", what, s, ok, shared, wantOk)
	}
}

// plainShared: the numbers of all that a quad is made of.
func plainShared(f impl.Forest, q int) []int {
	all := []int{q}
	for _, k := range f.Quads[q].Kids {
		all = append(all, plainShared(f, k)...)
	}
	slices.Sort(all)
	return slices.Compact(all)
}

func TestNewForest(t *testing.T) {
	f := impl.NewForest()
	if !sameForest(f, forestOf()) || !impl.GoodForest(f) {
		t.Fatal(f)
	}
	f.Quads[0].Level = 7
	f.Quads[1].Kids = []int{1}
	if g := impl.NewForest(); !sameForest(g, forestOf()) {
		t.Error("an answer's memory is another one's:", g)
	}
}

func TestGoodForest(t *testing.T) {
	for name, f := range goodForests() {
		if !impl.GoodForest(f) {
			t.Errorf("%s: told bad: %v", name, f)
		}
	}
	for name, f := range badForests() {
		if impl.GoodForest(f) {
			t.Errorf("%s: told good: %v", name, f)
		}
	}
}

func TestBadForestsGetTheZeroAnswer(t *testing.T) {
	for name, f := range badForests() {
		for _, kids := range [][]int{nil, {0, 0, 0, 0}, {1, 0, 0, 1}, {2, 2, 2, 2}, {1}} {
			g, q, ok := impl.JoinQuads(f, kids)
			wantNoTree(t, fmt.Sprint("JoinQuads ", name, kids), g, q, ok)
		}
		for level := -1; level <= impl.MaxLevel+1; level++ {
			g, q, ok := impl.TreeOf(f, level, block)
			wantNoTree(t, fmt.Sprint("TreeOf ", name, level), g, q, ok)
			g, q, ok = impl.BlankOf(f, level)
			wantNoTree(t, fmt.Sprint("BlankOf ", name, level), g, q, ok)
		}
		for _, q := range []int{-1, 0, 1, 2, 3, len(f.Quads) - 1, len(f.Quads)} {
			wantAsked(t, fmt.Sprint(name, " ", q), f, q, nil, 0, nil, false)
		}
	}
}

func TestAskingForAQuad(t *testing.T) {
	for name, f := range goodForests() {
		drawn := pictures(f)
		for q := range f.Quads {
			wantAsked(t, fmt.Sprint(name, " ", q), f, q, cellsOfPicture(drawn[q]), f.Quads[q].Level, plainShared(f, q), true)
		}
		for _, q := range []int{-1, len(f.Quads), len(f.Quads) + 1, 1 << 32, math.MinInt, math.MaxInt} {
			wantAsked(t, fmt.Sprint(name, " ", q), f, q, nil, 0, nil, false)
		}
	}
}

func TestAskingForTheCells(t *testing.T) {
	f := manyQuads(20)
	wantAsked(t, "dead", f, 0, nil, 0, []int{0}, true)
	wantAsked(t, "living", f, 1, cells{at(0, 0)}, 0, []int{1}, true)
	wantAsked(t, "blank", f, 2, nil, 1, []int{0, 2}, true)
	wantAsked(t, "full", f, 17, block, 1, []int{1, 17}, true)
	wantAsked(t, "one", f, 3, cells{at(1, 1)}, 1, []int{0, 1, 3}, true)
	wantAsked(t, "one of sixteen", f, 19, cells{at(3, 3)}, 2, []int{0, 1, 2, 3, 19}, true)
}

// Where the kids stand: each in its own quarter, the rows of both upper ones ahead of those of the lower ones.
func TestKidsInTheirQuarters(t *testing.T) {
	f := forestOf([5]int{1, 1, 1, 1, 1}, [5]int{1, 0, 0, 0, 0},
		[5]int{2, 2, 3, 3, 3}, [5]int{2, 3, 2, 3, 3}, [5]int{2, 3, 3, 2, 3}, [5]int{2, 3, 3, 3, 2}, [5]int{2, 2, 2, 3, 2})
	for i, from := range (cells{at(0, 0), at(2, 0), at(0, 2), at(2, 2)}) {
		var want cells
		for _, c := range block {
			want = append(want, at(from.X+c.X, from.Y+c.Y))
		}
		got, ok := impl.CellsIn(f, 4+i)
		wantCells(t, fmt.Sprint("quarter ", i), got, ok, want, true)
	}
	got, ok := impl.CellsIn(f, 8)
	wantCells(t, "in order", got, ok, slices.Concat(row(0, 0, 4), row(0, 1, 4), row(2, 2, 2), row(2, 3, 2)), true)
}

// A square that is full, of every level: more cells than MaxCells, by five quads alone.
func TestFullSquares(t *testing.T) {
	f, q, ok := impl.NewForest(), 1, true
	for level := 1; level <= impl.MaxLevel; level++ {
		f, q, ok = impl.JoinQuads(f, []int{q, q, q, q})
		if !ok || q != level+1 || len(f.Quads) != level+2 || f.Quads[q].Level != level {
			t.Fatal(level, f, q, ok)
		}
		var want cells
		shared := []int{1}
		for y := range 1 << level {
			want = append(want, row(0, y, 1<<level)...)
		}
		for n := 2; n <= q; n++ {
			shared = append(shared, n)
		}
		wantAsked(t, fmt.Sprint("full ", level), f, q, want, level, shared, true)
		if level > 3 {
			continue
		}
		g, k, ok := impl.TreeOf(impl.NewForest(), level, want)
		wantTree(t, fmt.Sprint("full ", level), g, k, ok, f, q, true)
		g, k, ok = impl.TreeOf(f, level, want)
		wantTree(t, fmt.Sprint("full once more ", level), g, k, ok, f, q, true)
	}
	g, k, ok := impl.JoinQuads(f, []int{q, q, q, q})
	wantNoTree(t, "beyond MaxLevel", g, k, ok)
}

func TestJoinQuads(t *testing.T) {
	r := rand.New(rand.NewSource(8))
	found, put := 0, 0
	for name, f := range goodForests() {
		for range 40 {
			kids := make([]int, 4)
			first := r.Intn(len(f.Quads))
			for i := range kids {
				for kids[i] = r.Intn(len(f.Quads)); f.Quads[kids[i]].Level != f.Quads[first].Level; {
					kids[i] = r.Intn(len(f.Quads))
				}
			}
			is := slices.IndexFunc(f.Quads, func(q impl.Quad) bool { return slices.Equal(q.Kids, kids) })
			level := f.Quads[first].Level + 1
			g, q, ok := impl.JoinQuads(f, kids)
			switch what := fmt.Sprint(name, kids); {
			case level > impl.MaxLevel:
				wantNoTree(t, what, g, q, ok)
			case is >= 0:
				wantTree(t, what, g, q, ok, f, is, true)
				found++
			case len(f.Quads) == impl.MaxNodes:
				wantNoTree(t, what, g, q, ok)
			default:
				want := copyForest(f)
				want.Quads = append(want.Quads, impl.Quad{Level: level, Kids: kids})
				wantTree(t, what, g, q, ok, want, len(f.Quads), true)
				again, k, ok := impl.JoinQuads(g, kids)
				wantTree(t, what+" twice", again, k, ok, want, q, true)
				put++
			}
		}
	}
	if found < 50 || put < 50 {
		t.Errorf("the forests try too little: %d %d", found, put)
	}
}

func TestEveryQuadIsThere(t *testing.T) {
	for name, f := range goodForests() {
		for n, q := range f.Quads[2:] {
			g, k, ok := impl.JoinQuads(f, q.Kids)
			wantTree(t, fmt.Sprint(name, " ", n+2), g, k, ok, f, n+2, true)
		}
	}
}

func TestJoinQuadsAtMaxLevel(t *testing.T) {
	f := tower(impl.MaxLevel)
	below, top := impl.MaxLevel, impl.MaxLevel+1
	g, q, ok := impl.JoinQuads(f, []int{below, below, below, below})
	wantTree(t, "of MaxLevel less 1, there", g, q, ok, f, top, true)
	g, q, ok = impl.JoinQuads(f, []int{top, top, top, top})
	wantNoTree(t, "of MaxLevel", g, q, ok)
	f = tower(impl.MaxLevel - 1)
	want := copyForest(f)
	want.Quads = append(want.Quads, impl.Quad{Level: impl.MaxLevel, Kids: []int{below, below, below, below}})
	g, q, ok = impl.JoinQuads(f, []int{below, below, below, below})
	wantTree(t, "of MaxLevel less 1, new", g, q, ok, want, len(f.Quads), true)
	if !impl.GoodForest(g) {
		t.Error("told bad:", g)
	}
}

func TestJoinQuadsOfWrongKids(t *testing.T) {
	f := tower(impl.MaxLevel)
	for _, kids := range [][]int{
		nil, {}, {0}, {0, 0, 0}, {0, 0, 0, 0, 0}, {1, 1, 1, 1, 1, 1, 1, 1}, {2, 2, 2},
		{-1, 0, 0, 0}, {0, -1, 0, 0}, {0, 0, -1, 0}, {0, 0, 0, -1}, {-1, -1, -1, -1},
		{8, 0, 0, 0}, {0, 0, 0, 8}, {8, 8, 8, 8}, {2, 2, 2, 8}, {0, 0, 0, 1000},
		{math.MinInt, 0, 0, 0}, {0, 0, 0, math.MaxInt}, {math.MaxInt, math.MaxInt, math.MaxInt, math.MaxInt},
		{2, 0, 0, 0}, {0, 2, 0, 0}, {0, 0, 2, 0}, {0, 0, 0, 2}, {2, 2, 3, 2}, {5, 5, 5, 6}, {6, 5, 5, 5}, {6, 6, 6, 6},
		make([]int, 100000),
	} {
		g, q, ok := impl.JoinQuads(f, kids)
		wantNoTree(t, fmt.Sprint(len(kids)), g, q, ok)
	}
}

func TestJoinQuadsAtMaxNodes(t *testing.T) {
	almost, full, more := manyQuads(impl.MaxNodes-1), manyQuads(impl.MaxNodes), manyQuads(impl.MaxNodes+1)
	last, beyond := full.Quads[impl.MaxNodes-1].Kids, more.Quads[impl.MaxNodes].Kids
	g, q, ok := impl.JoinQuads(almost, last)
	wantTree(t, "the last one that has room", g, q, ok, full, impl.MaxNodes-1, true)
	g, q, ok = impl.JoinQuads(full, last)
	wantTree(t, "the last one once more", g, q, ok, full, impl.MaxNodes-1, true)
	g, q, ok = impl.JoinQuads(full, []int{1, 1, 1, 1})
	wantTree(t, "one that is there", g, q, ok, full, 17, true)
	g, q, ok = impl.JoinQuads(full, beyond)
	wantNoTree(t, "one that has no room", g, q, ok)
	g, q, ok = impl.JoinQuads(full, []int{18, 18, 18, 18})
	wantNoTree(t, "one of Level 3 that has no room", g, q, ok)
}

func TestTreesAreThePlainOnes(t *testing.T) {
	r := rand.New(rand.NewSource(9))
	forests := []impl.Forest{forestOf(), tower(impl.MaxLevel), manyQuads(60), manyQuads(330), manyQuads(impl.MaxNodes)}
	for range 10 {
		forests = append(forests, someForest(r, 20+r.Intn(100)))
	}
	told := map[bool]int{}
	for i, l := range treeLists() {
		for level := range impl.MaxLevel + 1 {
			for _, f := range []impl.Forest{forests[0], forests[1+(i+level)%(len(forests)-1)]} {
				want, wantQ, wantOk := plainTree(f, level, l)
				g, q, ok := impl.TreeOf(f, level, l)
				wantTree(t, fmt.Sprint("list ", i, " level ", level), g, q, ok, want, wantQ, wantOk)
				told[ok]++
			}
		}
	}
	if told[true] < 300 || told[false] < 30 {
		t.Errorf("the lists try too little: %v", told)
	}
}

// Promise 3: just the cells within the square come back, and a tree made once more puts no quad behind all.
func TestATreeHasJustItsCells(t *testing.T) {
	f := impl.NewForest()
	for i, l := range treeLists() {
		for level := range impl.MaxLevel + 1 {
			if len(f.Quads) > impl.MaxNodes-110 {
				f = impl.NewForest()
			}
			g, q, ok := impl.TreeOf(f, level, l)
			if !ok || !impl.GoodForest(g) || !sameForest(impl.Forest{Quads: g.Quads[:len(f.Quads)]}, f) {
				t.Fatal(i, level, f, g, q, ok)
			}
			want := slices.DeleteFunc(slices.Clone(l), func(c impl.Cell) bool {
				return c.X < 0 || c.Y < 0 || c.X >= 1<<level || c.Y >= 1<<level
			})
			what := fmt.Sprint("list ", i, " level ", level)
			wantAsked(t, what, g, q, want, level, plainShared(g, q), true)
			again, k, ok := impl.TreeOf(g, level, l)
			wantTree(t, what+" once more", again, k, ok, g, q, true)
			again, k, ok = impl.TreeOf(g, level, want)
			wantTree(t, what+" of the cells within alone", again, k, ok, g, q, true)
			f = g
		}
	}
}

// Kids in order, each ahead of what it is a kid of, written out.
func TestTheOrderOfATree(t *testing.T) {
	f, q, ok := impl.TreeOf(impl.NewForest(), 2, cells{at(3, 0), at(0, 3)})
	want := forestOf([5]int{1, 0, 0, 0, 0}, [5]int{1, 0, 1, 0, 0}, [5]int{1, 0, 0, 1, 0}, [5]int{2, 2, 3, 4, 2})
	wantTree(t, "two corners", f, q, ok, want, 5, true)
	f, q, ok = impl.TreeOf(f, 3, cells{at(7, 0), at(4, 3), at(7, 7)})
	want = forestOf([5]int{1, 0, 0, 0, 0}, [5]int{1, 0, 1, 0, 0}, [5]int{1, 0, 0, 1, 0}, [5]int{2, 2, 3, 4, 2},
		[5]int{2, 2, 2, 2, 2}, [5]int{1, 0, 0, 0, 1}, [5]int{2, 2, 2, 2, 7}, [5]int{3, 6, 5, 6, 8})
	wantTree(t, "the same among others", f, q, ok, want, 9, true)
	f, q, ok = impl.TreeOf(impl.NewForest(), 1, cells{at(1, 0)})
	wantTree(t, "one of four", f, q, ok, forestOf([5]int{1, 0, 1, 0, 0}), 2, true)
}

func TestTreesAtTheEdges(t *testing.T) {
	for level := range impl.MaxLevel + 1 {
		last := 1<<level - 1
		for _, c := range (cells{at(0, 0), at(last, 0), at(0, last), at(last, last)}) {
			f, q, ok := impl.TreeOf(impl.NewForest(), level, cells{c})
			got, is := impl.CellsIn(f, q)
			wantCells(t, fmt.Sprint("at the edge ", level, c), got, ok && is, cells{c}, true)
		}
		blank, none, _ := plainTree(forestOf(), level, nil)
		for _, c := range (cells{at(-1, 0), at(0, -1), at(last+1, 0), at(0, last+1), at(last+1, last), at(last, last+1), at(-1, last), at(last, -1), at(far, far), at(-far, -far)}) {
			f, q, ok := impl.TreeOf(impl.NewForest(), level, cells{c})
			wantTree(t, fmt.Sprint("just beyond ", level, c), f, q, ok, blank, none, true)
		}
	}
}

func TestTreesOfLevel0(t *testing.T) {
	for name, f := range goodForests() {
		g, q, ok := impl.TreeOf(f, 0, cells{at(0, 0)})
		wantTree(t, name, g, q, ok, f, 1, true)
		g, q, ok = impl.TreeOf(f, 0, cells{at(1, 0), at(0, 1)})
		wantTree(t, name, g, q, ok, f, 0, true)
		g, q, ok = impl.BlankOf(f, 0)
		wantTree(t, name, g, q, ok, f, 0, true)
	}
}

func TestBlankOf(t *testing.T) {
	for name, f := range goodForests() {
		for level := range impl.MaxLevel + 1 {
			want, wantQ, wantOk := plainTree(f, level, nil)
			g, q, ok := impl.BlankOf(f, level)
			what := fmt.Sprint(name, " level ", level)
			wantTree(t, what, g, q, ok, want, wantQ, wantOk)
			again, k, is := impl.TreeOf(f, level, nil)
			wantTree(t, what, again, k, is, g, q, ok)
			if !ok {
				continue
			}
			wantAsked(t, what, g, q, nil, level, plainShared(want, wantQ), true)
			again, k, is = impl.BlankOf(g, level)
			wantTree(t, what+" once more", again, k, is, g, q, true)
		}
	}
	f, q, ok := impl.BlankOf(impl.NewForest(), impl.MaxLevel)
	want := tower(impl.MaxLevel)
	want.Quads = want.Quads[:impl.MaxLevel+2]
	wantTree(t, "the greatest", f, q, ok, want, impl.MaxLevel+1, true)
}

func TestTreesOfWrongArguments(t *testing.T) {
	for _, f := range []impl.Forest{forestOf(), tower(impl.MaxLevel)} {
		for _, level := range []int{-1, impl.MaxLevel + 1, 64, 1 << 32, math.MinInt, math.MaxInt} {
			g, q, ok := impl.TreeOf(f, level, nil)
			wantNoTree(t, fmt.Sprint("TreeOf level ", level), g, q, ok)
			g, q, ok = impl.TreeOf(f, level, block)
			wantNoTree(t, fmt.Sprint("TreeOf level ", level), g, q, ok)
			g, q, ok = impl.BlankOf(f, level)
			wantNoTree(t, fmt.Sprint("BlankOf level ", level), g, q, ok)
		}
		for name, l := range badLists() {
			for level := range impl.MaxLevel + 1 {
				g, q, ok := impl.TreeOf(f, level, l)
				wantNoTree(t, fmt.Sprint(name, level), g, q, ok)
			}
		}
	}
}

// A tree that needs just the room there is is made; with one quad less of room nothing is told.
func TestTreesAtMaxNodes(t *testing.T) {
	lists := treeLists()
	dense := someCells(rand.New(rand.NewSource(10)), 0, 0, 32, impl.MaxCells)
	just, over := 0, 0
	try := func(n, level int, l cells) {
		f := manyQuads(n)
		want, wantQ, wantOk := plainTree(f, level, l)
		g, q, ok := impl.TreeOf(f, level, l)
		wantTree(t, fmt.Sprint("cells ", l, " level ", level, " quads ", n), g, q, ok, want, wantQ, wantOk)
		if ok && len(g.Quads) == impl.MaxNodes && n < impl.MaxNodes {
			just++
		}
		if !ok {
			over++
		}
	}
	for n := impl.MaxNodes - 30; n <= impl.MaxNodes; n++ {
		for _, l := range lists[:9] {
			for level := 2; level <= impl.MaxLevel; level++ {
				try(n, level, l)
			}
		}
	}
	for n := impl.MaxNodes - 100; n <= impl.MaxNodes; n++ {
		try(n, impl.MaxLevel, dense)
	}
	if just < 10 || over < 100 {
		t.Errorf("the trees try too little: %d %d", just, over)
	}
}

// A full forest tells what is in it as ever, trees that are there among it.
func TestTreesThatAreThereAtMaxNodes(t *testing.T) {
	f := manyQuads(impl.MaxNodes)
	drawn := pictures(f)
	for q, quad := range f.Quads {
		g, k, ok := impl.TreeOf(f, quad.Level, cellsOfPicture(drawn[q]))
		wantTree(t, fmt.Sprint("quad ", q), g, k, ok, f, q, true)
	}
}

// guardedForest: a copy of the forest with more quads, and more kids, behind the length of each list, and all of its memory.
func guardedForest(f impl.Forest) (impl.Forest, []impl.Quad) {
	whole := append(copyForest(f).Quads, forestOf([5]int{1, 0, 1, 1, 0}, [5]int{2, 2, 2, 2, 2}).Quads...)
	for i, q := range whole {
		whole[i].Kids = append(q.Kids, 0, 1, 7001)[:len(q.Kids)]
	}
	return impl.Forest{Quads: whole[:len(f.Quads)]}, whole
}

// written: all memory of quads, what lies behind the lengths too, as a text.
func written(quads []impl.Quad) string {
	var all strings.Builder
	for _, q := range quads[:cap(quads)] {
		fmt.Fprintln(&all, q.Level, len(q.Kids), q.Kids[:cap(q.Kids)])
	}
	return all.String()
}

type span struct{ from, to uintptr }

func spanOf[E any](l []E) span {
	from := uintptr(unsafe.Pointer(unsafe.SliceData(l)))
	return span{from, from + uintptr(cap(l))*unsafe.Sizeof(*new(E))}
}

// spansOf: the memory of each list of quads.
func spansOf(quads []impl.Quad) []span {
	all := []span{spanOf(quads)}
	for _, q := range quads {
		all = append(all, spanOf(q.Kids))
	}
	return all
}

// wantApart: fails if any two of these have memory together.
func wantApart(t *testing.T, what string, all []span) {
	t.Helper()
	all = slices.DeleteFunc(slices.Clone(all), func(s span) bool { return s.from == s.to })
	slices.SortFunc(all, func(a, b span) int {
		if a.from < b.from {
			return -1
		}
		return 1
	})
	for i := 1; i < len(all); i++ {
		if all[i].from < all[i-1].to {
			t.Errorf("%s: two lists share memory", what)
			return
		}
	}
}

// smallForests: the good and the bad forests that are not too great to be tried with all calls.
func smallForests() map[string]impl.Forest {
	all := badForests()
	for name, f := range goodForests() {
		all[name] = f
	}
	delete(all, "far too many")
	return all
}

func TestTreesWriteIntoNothingAndShareNothing(t *testing.T) {
	type call struct {
		name string
		do   func(f impl.Forest, kids []int, l cells) (impl.Forest, int, bool)
	}
	calls := []call{
		{"JoinQuads", func(f impl.Forest, kids []int, l cells) (impl.Forest, int, bool) { return impl.JoinQuads(f, kids) }},
		{"BlankOf", func(f impl.Forest, kids []int, l cells) (impl.Forest, int, bool) { return impl.BlankOf(f, 3) }},
		{"TreeOf 0", func(f impl.Forest, kids []int, l cells) (impl.Forest, int, bool) { return impl.TreeOf(f, 0, l) }},
		{"TreeOf 4", func(f impl.Forest, kids []int, l cells) (impl.Forest, int, bool) { return impl.TreeOf(f, 4, l) }},
	}
	for name, f := range smallForests() {
		given, whole := guardedForest(f)
		before := written(whole)
		for _, c := range calls {
			for _, k := range [][]int{{0, 1, 1, 0}, {1, 1, 1, 1}, {2, 2, 2, 2}, {0, 1, 1}, {-1, 0, 0, 0}} {
				what := c.name + " " + name
				l, wholeL := guarded(glider)
				wholeKids := append(slices.Clone(k), 1, 7001)
				kids := wholeKids[:len(k)]
				beforeL, beforeKids := slices.Clone(wholeL), slices.Clone(wholeKids)
				g, q, ok := c.do(given, kids, l)
				want, wantQ, wantOk := c.do(copyForest(f), slices.Clone(k), slices.Clone(glider))
				wantTree(t, what+": what lies behind is read", g, q, ok, want, wantQ, wantOk)
				wantApart(t, what, slices.Concat(spansOf(g.Quads), spansOf(want.Quads), spansOf(whole), []span{spanOf(wholeKids), spanOf(wholeL)}))
				if written(whole) != before || !slices.Equal(wholeKids, beforeKids) || !slices.Equal(wholeL, beforeL) {
					t.Fatalf("%s: the argument's memory is written", what)
				}
			}
		}
	}
}

func TestAskingWritesIntoNothingAndSharesNothing(t *testing.T) {
	for name, f := range smallForests() {
		given, whole := guardedForest(f)
		before := written(whole)
		if good, want := impl.GoodForest(given), impl.GoodForest(copyForest(f)); good != want {
			t.Errorf("GoodForest %s: what lies behind is read", name)
		}
		for _, q := range []int{-1, 0, 1, 2, len(f.Quads) - 1, len(f.Quads), len(f.Quads) + 1} {
			what := fmt.Sprint(name, " ", q)
			l, ok := impl.CellsIn(given, q)
			shared, told := impl.SharedIn(given, q)
			level, _ := impl.LevelOf(given, q)
			wantAsked(t, what+": what lies behind is read", copyForest(f), q, l, level, shared, ok && told)
			wantAsked(t, what+": told otherwise", given, q, slices.Clone(l), level, slices.Clone(shared), ok)
			wantApart(t, what, append(spansOf(whole), spanOf(l), spanOf(shared)))
		}
		if written(whole) != before {
			t.Fatalf("%s: the argument's memory is written", name)
		}
	}
}

// Lists of kids that are one and the same memory are as good as others, and are parted in the answer.
func TestKidsInOneMemory(t *testing.T) {
	one := []int{0, 0, 0, 0, 1, 1, 1, 1}
	f := impl.Forest{Quads: []impl.Quad{{Kids: one[:0]}, {Kids: one[8:]}, {Level: 1, Kids: one[:4]}, {Level: 1, Kids: one[2:6]}, {Level: 1, Kids: one[4:]}}}
	g, q, ok := impl.JoinQuads(f, []int{4, 3, 2, 4})
	want := forestOf([5]int{1, 0, 0, 0, 0}, [5]int{1, 0, 0, 1, 1}, [5]int{1, 1, 1, 1, 1}, [5]int{2, 4, 3, 2, 4})
	wantTree(t, "kids that overlap", g, q, ok, want, 5, true)
	wantApart(t, "kids that overlap", append(spansOf(g.Quads), spanOf(one)))
}

// A function that leant on the order of a map would tell other trees now and then.
func TestTheSameTreeAgain(t *testing.T) {
	l := someCells(rand.New(rand.NewSource(11)), 0, 0, 32, impl.MaxCells)
	f, q, ok := impl.TreeOf(manyQuads(200), impl.MaxLevel, l)
	for range 30 {
		g, k, told := impl.TreeOf(manyQuads(200), impl.MaxLevel, l)
		wantTree(t, "once more", g, k, told, f, q, ok)
	}
}
