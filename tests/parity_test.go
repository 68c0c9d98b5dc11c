package tests

import (
	"fmt"
	"maps"
	"math"
	"math/bits"
	"math/rand"
	"slices"
	"testing"

	"loop.example/g00613/impl"
)

const (
	maxParity = 16
	maxChosen = 1000
	maxRow    = 60
)

var (
	// falling and rising: four cells on a slope, which are at most 64 in each of 16 steps, where one cell alone comes to 256.
	falling = cells{at(0, 0), at(1, 1), at(2, 2), at(3, 3)}
	rising  = cells{at(3, 0), at(2, 1), at(1, 2), at(0, 3)}
)

// plainCopies: the places, of all that four copies can be at, of which an odd number of places so far beside are cells; there may be any number of these, anywhere.
func plainCopies(l cells, by int) cells {
	if len(l) == 0 {
		return nil
	}
	least, most := ends(l)
	wide, high := most.X-least.X+1+4*by, most.Y-least.Y+1+4*by
	alive := make([]byte, wide*high)
	for _, c := range l {
		alive[(c.Y-least.Y+2*by)*wide+c.X-least.X+2*by] = 1
	}
	var copies cells
	for y := by; y < high-by; y++ {
		for x := by; x < wide-by; x++ {
			i := y*wide + x
			if (alive[i-by*wide]+alive[i+by*wide]+alive[i-by]+alive[i+by])%2 == 1 {
				copies = append(copies, at(x+least.X-2*by, y+least.Y-2*by))
			}
		}
	}
	return copies
}

// parityPast: the cells behind 0 steps, 1 and so on up to steps, as far as they are good.
func parityPast(l cells, steps int) []cells {
	past := []cells{l}
	for len(past) <= steps {
		next := plainCopies(past[len(past)-1], 1)
		if !plainGood(next) {
			break
		}
		past = append(past, next)
	}
	return past
}

// plainUnlike: the cells of each that the other has not.
func plainUnlike(a, b cells) cells {
	onlyA := having(a, func(c impl.Cell) bool { return !slices.Contains(b, c) })
	onlyB := having(b, func(c impl.Cell) bool { return !slices.Contains(a, c) })
	return beside(onlyA, onlyB)
}

// goodOr: the cells and true where they are good, else none and false.
func goodOr(l cells) (cells, bool) {
	if !plainGood(l) {
		return nil, false
	}
	return l, true
}

// thinLists: few cells, or what comes of few, at places where they have room for some steps, or for none.
func thinLists() []cells {
	r := rand.New(rand.NewSource(53))
	lists := []cells{nil, {}, {at(0, 0)}, falling, rising, block, glider}
	for i := range 400 {
		var l cells
		switch i % 4 {
		case 0:
			l = someCells(r, 0, 0, 1+r.Intn(6), 1+r.Intn(5))
		case 1:
			l = someCells(r, 0, 0, 3+r.Intn(30), 1+r.Intn(6))
		case 2:
			l = moved([]cells{falling, rising}[r.Intn(2)], r.Intn(42)-22, r.Intn(42)-22)
		case 3:
			past := parityPast(someCells(r, 0, 0, 2, 2), 12)
			l = past[r.Intn(len(past))]
		}
		if i%4 != 2 {
			places := fits(r, l)
			l = places[r.Intn(len(places))]
		}
		lists = append(lists, l)
	}
	return lists
}

func parityTried() []cells {
	return slices.Concat(thinLists(), mixedLists(), sparseLists())
}

// Each of the 512 squares of nine cells: the corners and the middle itself make no difference to the middle.
func TestEveryNeighbourhoodOfFour(t *testing.T) {
	for n := range 512 {
		var l cells
		four := 0
		for i := range 9 {
			if n>>i&1 == 1 {
				l = append(l, at(i%3-1, i/3-1))
				four += i % 2
			}
		}
		got, ok := impl.StepParity(l)
		wantCells(t, fmt.Sprintf("%09b", n), got, ok, plainCopies(l, 1), true)
		if slices.Contains(got, at(0, 0)) != (four == 1 || four == 3) {
			t.Errorf("%09b: %d of four, the middle in %v", n, four, got)
		}
	}
}

func TestStepParityIsThePlainOne(t *testing.T) {
	told := map[bool]int{}
	for i, l := range parityTried() {
		want, good := goodOr(plainCopies(l, 1))
		got, ok := impl.StepParity(l)
		wantCells(t, fmt.Sprint("list ", i), got, ok, want, good)
		told[ok]++
	}
	if told[true] < 300 || told[false] < 300 {
		t.Error("the lists try too little:", told)
	}
}

// What is there once, twice, three times and four times, written out.
func TestParityWrittenOut(t *testing.T) {
	for _, c := range []struct {
		what     string
		from, to cells
	}{
		{"one", drawn("", ".o"), drawn(".o", "o.o", ".o")},
		{"two side by side", drawn("", ".oo"), drawn(".oo", "oooo", ".oo")},
		{"three side by side", drawn("", ".ooo"), drawn(".ooo", "oo.oo", ".ooo")},
		{"a block", drawn("", ".oo", ".oo"), drawn(".oo", "o..o", "o..o", ".oo")},
		{"on a slope", drawn("", ".o", "..o"), drawn(".o", "o", "...o", "..o")},
		{"twice", drawn("", ".o.o"), drawn(".o.o", "o...o", ".o.o")},
		{"three times", drawn("", "..o", ".o.o"), drawn("..o", "", "o.o.o", ".o.o")},
		{"four times", drawn("", "..o", ".o.o", "..o"), drawn("..o", "", "o...o", "", "..o")},
	} {
		got, ok := impl.StepParity(c.from)
		wantCells(t, c.what, got, ok, c.to, true)
		got, ok = impl.ParityTimes(c.from, 1)
		wantCells(t, c.what+", once", got, ok, c.to, true)
	}
}

// Copies that meet once, twice, three and four times, from each of their sides, so far apart as may be.
func TestCopiesThatMeet(t *testing.T) {
	for by := 1; by <= far; by++ {
		for n := range 16 {
			var l cells
			for i, c := range (cells{at(by, 0), at(-by, 0), at(0, by), at(0, -by)}) {
				if n>>i&1 == 1 {
					l = append(l, c)
				}
			}
			l = sortCells(l)
			want, good := goodOr(plainCopies(l, by))
			got, ok := impl.FourCopies(l, by)
			wantCells(t, fmt.Sprint(l, " by ", by), got, ok, want, good)
			if good && slices.Contains(got, at(0, 0)) != (len(l)%2 == 1) {
				t.Errorf("%v by %d: %d copies meet, in the middle of %v", l, by, len(l), got)
			}
			if good != (n == 0 || 2*by <= far) {
				t.Errorf("%v by %d tries another thing: %v", l, by, good)
			}
		}
	}
	got, ok := impl.FourCopies(cells{at(-3, -2), at(2, 3)}, 5)
	wantCells(t, "on a slope, two meet twice", got, ok, cells{at(-3, -7), at(-8, -2), at(7, 3), at(2, 8)}, true)
}

func TestStepParityOfNoCellsAndOfOne(t *testing.T) {
	for _, l := range []cells{nil, {}} {
		for by := 1; by <= far; by++ {
			got, ok := impl.FourCopies(l, by)
			wantCells(t, fmt.Sprint("no cells, copied by ", by), got, ok, nil, true)
		}
		for times := range maxParity + 1 {
			got, ok := impl.ParityTimes(l, times)
			wantCells(t, fmt.Sprint("no cells, times ", times), got, ok, nil, true)
		}
		got, ok := impl.StepParity(l)
		wantCells(t, "no cells", got, ok, nil, true)
		got, ok = impl.UnlikeCells(l, nil)
		wantCells(t, "no cells twice", got, ok, nil, true)
	}
	for y := -far; y <= far; y++ {
		for x := -far; x <= far; x++ {
			want, good := goodOr(cells{at(x, y-1), at(x-1, y), at(x+1, y), at(x, y+1)})
			got, ok := impl.StepParity(cells{at(x, y)})
			wantCells(t, fmt.Sprint("one at ", x, y), got, ok, want, good)
		}
	}
}

// A neighbour just beyond the rim is never there twice: no cell at the rim goes on, whatever is beside it.
func TestParityAtTheRim(t *testing.T) {
	for i, turn := range turned() {
		for _, c := range []struct {
			what string
			l    cells
			good bool
		}{
			{"one ahead of the rim", cells{at(far-1, 0)}, true},
			{"one at the rim", cells{at(far, 0)}, false},
			{"two at the rim", cells{at(far, 0), at(far, 2)}, false},
			{"on a slope to the rim", cells{at(far-1, 0), at(far, 1)}, false},
			{"three around one at the rim", cells{at(far, 0), at(far-1, 1), at(far, 2)}, false},
			{"a block in the corner", cells{at(far-1, far-1), at(far, far-1), at(far-1, far), at(far, far)}, false},
			{"a block ahead of the corner", cells{at(far-2, far-2), at(far-1, far-2), at(far-2, far-1), at(far-1, far-1)}, true},
			{"ahead of both rims", cells{at(far-1, far-1)}, true},
			{"ahead of all rims", cells{at(1-far, 1-far), at(far-1, far-1)}, true},
			{"a row ahead of the rim", column(far-1, 0, 9), true},
			{"a row at the rim", column(far, 0, 9), false},
		} {
			l := sortCells(eachTurned(c.l, turn))
			want := plainCopies(l, 1)
			if !c.good {
				want = nil
			}
			got, ok := impl.StepParity(l)
			wantCells(t, fmt.Sprint(c.what, " turn ", i), got, ok, want, c.good)
		}
	}
}

func TestParityOfManyCells(t *testing.T) {
	var apart cells
	for i := range 31 {
		apart = append(apart, at(i%6*4-20, i/6*4-20))
	}
	last := apart[30]
	for _, c := range []struct {
		what string
		l    cells
		many int
	}{
		{"30 apart", apart[:30], 120},
		{"31 apart", apart, 124},
		{"31, two of which meet once", append(slices.Clone(apart[:30]), at(last.X, last.Y-2)), 122},
		{"31, two of which meet twice", append(slices.Clone(apart[:29]), apart[29], at(apart[29].X+1, apart[29].Y+1)), 120},
		{"58 side by side", row(-29, 0, 58), 120},
		{"59 side by side", row(-29, 0, 59), 122},
		{"MaxCells in a field", slices.Concat(row(0, 0, 12), row(0, 1, 12), row(0, 2, 12), row(0, 3, 12), row(0, 4, 12), row(0, 5, 12), row(0, 6, 12), row(0, 7, 12), row(0, 8, 12), row(0, 9, 12)), 80},
		{"a field of 10 by 10", slices.Concat(row(0, 0, 10), row(0, 1, 10), row(0, 2, 10), row(0, 3, 10), row(0, 4, 10), row(0, 5, 10), row(0, 6, 10), row(0, 7, 10), row(0, 8, 10), row(0, 9, 10)), 72},
	} {
		plain := plainCopies(c.l, 1)
		if len(plain) != c.many || !impl.GoodCells(c.l) {
			t.Errorf("%s: tries another thing: %d", c.what, len(plain))
		}
		want, good := goodOr(plain)
		if good != (c.many <= impl.MaxCells) {
			t.Error(c.what, good)
		}
		got, ok := impl.StepParity(c.l)
		wantCells(t, c.what, got, ok, want, good)
		got, ok = impl.FourCopies(c.l, 1)
		wantCells(t, c.what+", copied", got, ok, want, good)
		got, ok = impl.ParityTimes(c.l, 1)
		wantCells(t, c.what+", once", got, ok, want, good)
	}
}

func TestParityTimesIsStepByStep(t *testing.T) {
	full, short := 0, 0
	for i, l := range parityTried() {
		past := parityPast(l, maxParity)
		for times := range maxParity + 1 {
			var want cells
			if times < len(past) {
				want = past[times]
			}
			got, ok := impl.ParityTimes(l, times)
			wantCells(t, fmt.Sprint("list ", i, " times ", times), got, ok, want, times < len(past))
		}
		if len(l) > 0 && len(past) > maxParity {
			full++
		}
		if len(past) > 3 && len(past) <= maxParity {
			short++
		}
	}
	if full < 10 || short < 100 {
		t.Error("the lists try too little:", full, short)
	}
}

// Cells that are good behind all steps, but were too many ahead of the last, are refused.
func TestParityTimesOnTheWay(t *testing.T) {
	one := cells{at(0, 0)}
	two := cells{at(-20, 0), at(20, 0)}
	eight := beside(moved(falling, -20, 0), moved(falling, 20, 0))
	nine := drawn("o......o......o", "", "", "", "", "", "", "o......o......o", "", "", "", "", "", "", "o......o......o")
	for _, c := range []struct {
		what string
		l    cells
		last int
	}{
		{"one, 256 behind 15", one, 14},
		{"two, 128 behind 7", two, 6},
		{"three, 192 behind 7", beside(two, one), 6},
		{"eight, 128 behind 11", eight, 10},
		{"four, 64 behind 15", falling, 16},
		{"four the other way", rising, 16},
		{"nine, 144 behind 3", nine, 2},
	} {
		for times := range maxParity + 1 {
			all := c.l
			for range times {
				all = plainCopies(all, 1)
			}
			if times > c.last {
				all = nil
			}
			got, ok := impl.ParityTimes(c.l, times)
			wantCells(t, fmt.Sprint(c.what, ", times ", times), got, ok, all, times <= c.last)
		}
	}
	for by, l := range map[int]cells{16: one, 8: two, 4: nine} {
		want, good := goodOr(plainCopies(l, by))
		got, ok := impl.FourCopies(l, by)
		wantCells(t, fmt.Sprint(l, " by ", by), got, ok, want, true)
		if !good {
			t.Error("the cells try another thing:", l, by)
		}
	}
}

// Each step goes one further in each direction: cells have just so many steps as they are ahead of the rim.
func TestParityTimesUpToTheRim(t *testing.T) {
	for i, turn := range turned() {
		for left := range maxParity {
			l := sortCells(eachTurned(moved(falling, far-3-left, 0), turn))
			for times := range maxParity + 1 {
				want := l
				for range times {
					want = plainCopies(want, 1)
				}
				if times > left {
					want = nil
				}
				got, ok := impl.ParityTimes(l, times)
				wantCells(t, fmt.Sprint("turn ", i, " left ", left, " times ", times), got, ok, want, times <= left)
			}
		}
	}
}

func TestParityWidensByOne(t *testing.T) {
	for i, l := range parityTried() {
		next, ok := impl.StepParity(l)
		if !ok || len(l) == 0 {
			continue
		}
		if len(next) == 0 || len(next)%2 != 0 {
			t.Fatalf("list %d: %d cells behind a step", i, len(next))
		}
		least, most := ends(l)
		from, to := ends(next)
		if from != at(least.X-1, least.Y-1) || to != at(most.X+1, most.Y+1) {
			t.Errorf("list %d: from %v %v to %v %v", i, least, most, from, to)
		}
	}
}

func TestUnlikeCells(t *testing.T) {
	lists := parityTried()
	told := map[bool]int{}
	for i, a := range lists {
		for _, b := range []cells{lists[(i*7+3)%len(lists)], a, nil, lists[len(lists)-1-i]} {
			want, good := goodOr(plainUnlike(a, b))
			got, ok := impl.UnlikeCells(a, b)
			wantCells(t, fmt.Sprint("list ", i), got, ok, want, good)
			got, ok = impl.UnlikeCells(b, a)
			wantCells(t, fmt.Sprint("list ", i, " the other way"), got, ok, want, good)
			told[ok]++
			if back, is := impl.UnlikeCells(got, b); ok {
				wantCells(t, fmt.Sprint("list ", i, " and back"), back, is, a, true)
			}
		}
	}
	if told[true] < 300 || told[false] < 100 {
		t.Error("the lists try too little:", told)
	}
}

func TestUnlikeCellsWrittenOut(t *testing.T) {
	corners := cells{at(-far, -far), at(far, -far), at(-far, far), at(far, far)}
	for _, c := range []struct{ a, b, want cells }{
		{nil, nil, nil},
		{block, nil, block},
		{nil, block, block},
		{block, block, nil},
		{cells{at(0, 0)}, cells{at(0, 0), at(1, 0)}, cells{at(1, 0)}},
		{cells{at(5, 0)}, cells{at(-5, 1)}, cells{at(5, 0), at(-5, 1)}},
		{cells{at(-5, 1)}, cells{at(5, 0)}, cells{at(5, 0), at(-5, 1)}},
		{drawn("oo.", ".oo"), drawn(".oo", "oo."), drawn("o.o", "o.o")},
		{corners, nil, corners},
		{corners, corners[1:3], cells{corners[0], corners[3]}},
		{corners[:2], corners[2:], corners},
		{corners, corners, nil},
	} {
		got, ok := impl.UnlikeCells(c.a, c.b)
		wantCells(t, fmt.Sprint(c.a, c.b), got, ok, c.want, true)
	}
}

func TestUnlikeCellsLimits(t *testing.T) {
	all := wide(2 * impl.MaxCells)
	for _, c := range []struct{ fromA, toA, fromB, toB int }{
		{0, 60, 60, 120}, {0, 60, 60, 121}, {0, 61, 61, 121}, {0, 120, 120, 120}, {0, 120, 120, 121},
		{0, 120, 119, 120}, {0, 120, 119, 121}, {0, 120, 119, 122}, {0, 120, 60, 180}, {0, 120, 61, 181},
		{0, 120, 60, 181}, {1, 120, 60, 180}, {1, 121, 0, 120}, {0, 120, 120, 240}, {0, 120, 0, 120},
		{60, 180, 0, 120}, {61, 180, 0, 120}, {119, 239, 0, 119},
	} {
		a, b := all[c.fromA:c.toA], all[c.fromB:c.toB]
		want, good := goodOr(plainUnlike(a, b))
		if c.toB-c.fromB > impl.MaxCells || c.toA-c.fromA > impl.MaxCells {
			want, good = nil, false
		}
		got, ok := impl.UnlikeCells(a, b)
		wantCells(t, fmt.Sprint(c), got, ok, want, good)
	}
	got, ok := impl.UnlikeCells(all[:120], all[60:180])
	wantCells(t, "just MaxCells", got, ok, slices.Concat(all[:60], all[120:180]), true)
}

func TestFourCopiesAreThePlainOnes(t *testing.T) {
	told := map[bool]int{}
	for i, l := range parityTried() {
		for by := 1 + i%5; by <= far; by += 3 + i%9 {
			want, good := goodOr(plainCopies(l, by))
			got, ok := impl.FourCopies(l, by)
			wantCells(t, fmt.Sprint("list ", i, " by ", by), got, ok, want, good)
			told[ok]++
		}
	}
	if told[true] < 500 || told[false] < 500 {
		t.Error("the lists try too little:", told)
	}
}

func TestFourCopiesUpToTheRim(t *testing.T) {
	for by := 1; by <= far; by++ {
		rim := far - by
		for _, c := range []struct {
			l    cells
			good bool
		}{
			{cells{at(0, 0)}, true},
			{cells{at(rim, rim)}, true},
			{cells{at(-rim, -rim)}, true},
			{cells{at(rim+1, rim)}, false},
			{cells{at(rim, rim+1)}, false},
			{cells{at(-rim-1, -rim)}, false},
			{cells{at(-rim, -rim-1)}, false},
		} {
			x, y := c.l[0].X, c.l[0].Y
			want := cells{at(x, y-by), at(x-by, y), at(x+by, y), at(x, y+by)}
			if !c.good {
				want = nil
			}
			got, ok := impl.FourCopies(c.l, by)
			wantCells(t, fmt.Sprint(c.l, " by ", by), got, ok, want, c.good)
		}
	}
}

func TestFourCopiesOfManyCells(t *testing.T) {
	for by := 11; by <= 20; by++ {
		for many := 28; many <= 32; many++ {
			var l cells
			for i := range many {
				l = append(l, at(i%8-4, i/8-2))
			}
			want, good := goodOr(plainCopies(l, by))
			got, ok := impl.FourCopies(l, by)
			wantCells(t, fmt.Sprint(many, " by ", by), got, ok, want, good)
			if good != (many <= 30) {
				t.Error(many, "by", by, "try another thing")
			}
		}
	}
}

// pairsAdded: two lists each: any two, and two slopes that meet.
func pairsAdded() [][2]cells {
	r := rand.New(rand.NewSource(54))
	lists := parityTried()
	var pairs [][2]cells
	for i := range 600 {
		a, b := lists[r.Intn(len(lists))], lists[r.Intn(len(lists))]
		if i%2 == 0 {
			a, b = moved(falling, r.Intn(5)-4, r.Intn(5)-4), moved([]cells{falling, rising}[i/2%2], r.Intn(5)-4, r.Intn(5)-4)
		}
		pairs = append(pairs, [2]cells{a, b})
	}
	return pairs
}

// What adds up: what comes of the unlike cells of two lists is what is unlike in what comes of each.
func TestWhatAddsUp(t *testing.T) {
	tried := map[string]int{}
	for i, pair := range pairsAdded() {
		both, is := impl.UnlikeCells(pair[0], pair[1])
		for name, on := range parityCalls() {
			ofA, okA := on(pair[0])
			ofB, okB := on(pair[1])
			ofBoth, okBoth := on(both)
			all, okAll := impl.UnlikeCells(ofA, ofB)
			if is && okA && okB && okBoth && okAll {
				wantCells(t, fmt.Sprint(name, " of pair ", i), ofBoth, true, all, true)
				tried[name]++
			}
		}
	}
	for name := range parityCalls() {
		if tried[name] < 20 {
			t.Error("the lists try too little:", tried)
		}
	}
}

// All cells of a list, one by one, come to what the list comes to.
func TestEachCellAddsUp(t *testing.T) {
	tried := 0
	for i, l := range parityTried() {
		for _, times := range []int{1, 2, 3, 5, 8} {
			want, ok := impl.ParityTimes(l, times)
			if !ok {
				continue
			}
			var all cells
			areGood := true
			for _, c := range l {
				of, ok := impl.ParityTimes(cells{c}, times)
				if !ok {
					t.Fatalf("list %d times %d: %v alone is refused", i, times, c)
				}
				all, ok = impl.UnlikeCells(all, of)
				areGood = areGood && ok
			}
			if areGood {
				wantCells(t, fmt.Sprint("list ", i, " times ", times), all, true, want, true)
				tried++
			}
		}
	}
	if tried < 500 {
		t.Error("the lists try too little:", tried)
	}
}

// By steps of a power of two all copies itself; what is refused ahead of that was not good on the way.
func TestPowersOfTwoCopyAll(t *testing.T) {
	tried := map[int]int{}
	for i, l := range parityTried() {
		past := parityPast(l, maxParity)
		for times := 1; times <= maxParity; times *= 2 {
			copies, is := impl.FourCopies(l, times)
			got, ok := impl.ParityTimes(l, times)
			what := fmt.Sprint("list ", i, " times ", times)
			if ok {
				wantCells(t, what, got, ok, copies, is)
				tried[times]++
			} else if len(past) > times {
				t.Error(what, "is refused")
			}
			if ok && len(l) > 0 && times <= 4 {
				again, is := impl.FourCopies(copies, times)
				twice, ok := impl.ParityTimes(got, times)
				if is && ok {
					wantCells(t, what+" and again", twice, ok, again, is)
				}
			}
		}
	}
	for times := 1; times <= maxParity; times *= 2 {
		if tried[times] < 20 {
			t.Error("the lists try too little:", tried)
		}
	}
}

// Two ways of the same: so many steps, and so many more; copies by one power of two, and by another.
func TestParityTimesAddUp(t *testing.T) {
	r := rand.New(rand.NewSource(55))
	tried := 0
	for i, l := range parityTried() {
		a, b := r.Intn(9), r.Intn(9)
		first, ok1 := impl.ParityTimes(l, a)
		second, ok2 := impl.ParityTimes(first, b)
		all, ok := impl.ParityTimes(l, a+b)
		if ok1 {
			wantCells(t, fmt.Sprint("list ", i, " times ", a, b), second, ok2, all, ok)
			tried++
		} else {
			wantCells(t, fmt.Sprint("list ", i, " times ", a, b), all, ok, nil, false)
		}
		by2, ok1 := impl.FourCopies(l, 2)
		by2and8, ok2 := impl.FourCopies(by2, 8)
		by8, ok3 := impl.FourCopies(l, 8)
		by8and2, ok4 := impl.FourCopies(by8, 2)
		if ok1 && ok2 && ok3 && ok4 {
			wantCells(t, fmt.Sprint("list ", i, " copied and copied"), by2and8, true, by8and2, true)
		}
	}
	if tried < 200 {
		t.Error("the lists try too little:", tried)
	}
}

// Cells that are turned about or moved come to the same, turned about or moved.
func TestParityTurnedAndMoved(t *testing.T) {
	r := rand.New(rand.NewSource(56))
	for i, l := range parityTried() {
		if i%3 != 0 {
			continue
		}
		way, by := r.Intn(manyWays), at(r.Intn(9)-4, r.Intn(9)-4)
		other, _ := impl.TurnCells(l, way)
		aside, isThere := impl.MoveCells(l, by.X, by.Y)
		for name, on := range parityCalls() {
			of, ok := on(l)
			ofOther, okOther := on(other)
			wantCells(t, fmt.Sprint(name, " of list ", i, " turned"), ofOther, okOther, plainTurn(of, way), ok)
			ofAside, okAside := on(aside)
			if ok && isThere && okAside {
				wantCells(t, fmt.Sprint(name, " of list ", i, " moved"), ofAside, okAside, moved(of, by.X, by.Y), true)
			}
		}
	}
}

// One cell comes to those cells whose X and Y, together and apart, are odd choices of the steps: each step goes up or down on both slopes.
func TestCentreTimes(t *testing.T) {
	for times := range maxParity + 1 {
		ks, ok := impl.RowOf(times)
		var want cells
		for _, a := range ks {
			for _, b := range ks {
				want = append(want, at(a+b-times, a-b))
			}
		}
		want = sortCells(want)
		if many := 1 << (2 * bits.OnesCount(uint(times))); len(want) != many || !ok {
			t.Errorf("times %d: %d cells, want %d", times, len(want), many)
		}
		good := times < 15
		if !good {
			want = nil
		}
		got, ok := impl.CentreTimes(times)
		wantCells(t, fmt.Sprint("times ", times), got, ok, want, good)
		again, is := impl.ParityTimes(cells{at(0, 0)}, times)
		wantCells(t, fmt.Sprint("times ", times, ", one cell"), again, is, got, ok)
	}
	for times, want := range []cells{
		{at(0, 0)},
		{at(0, -1), at(-1, 0), at(1, 0), at(0, 1)},
		{at(0, -2), at(-2, 0), at(2, 0), at(0, 2)},
		moved(drawn("...o", "..o.o", ".o.o.o", "o.o.o.o", ".o.o.o", "..o.o", "...o"), -3, -3),
		{at(0, -4), at(-4, 0), at(4, 0), at(0, 4)},
	} {
		got, ok := impl.CentreTimes(times)
		wantCells(t, fmt.Sprint("times ", times, ", written out"), got, ok, want, true)
	}
}

// oddRows: which of the ways to choose are odd, row by row: each is put together from the two above it.
func oddRows(most int) [][]int {
	rows := [][]int{{1}}
	for n := 1; n <= most; n++ {
		above, odd := append([]int{0}, append(rows[n-1], 0)...), make([]int, n+1)
		for k := range odd {
			odd[k] = (above[k] + above[k+1]) % 2
		}
		rows = append(rows, odd)
	}
	return rows
}

func TestChooseOddRowByRow(t *testing.T) {
	many := 0
	for n, odd := range oddRows(maxChosen) {
		for k := range maxChosen + 1 {
			want := k <= n && odd[k] == 1
			if got, ok := impl.ChooseOdd(n, k); got != want || !ok {
				t.Fatalf("%d of %d: %v %v, want %v", k, n, got, ok, want)
			}
			if want {
				many++
			}
		}
	}
	if many < 1000 {
		t.Error("the rows try too little:", many)
	}
}

func TestChooseOddWrittenOut(t *testing.T) {
	for _, c := range []struct {
		n, k int
		want bool
	}{
		{0, 0, true}, {0, 1, false}, {0, maxChosen, false}, {1, 0, true}, {1, 1, true}, {1, 2, false},
		{2, 1, false}, {4, 2, false}, {5, 2, false}, {6, 2, true}, {6, 4, true}, {6, 3, false}, {7, 3, true}, {7, 8, false},
		{maxChosen, 0, true}, {maxChosen, 8, true}, {maxChosen, 1, false}, {maxChosen, maxChosen, true},
		{maxChosen, maxChosen - 1, false}, {maxChosen - 1, maxChosen, false}, {maxChosen - 1, maxChosen - 1, true},
		{512, 256, false}, {511, 256, true}, {511, 512, false},
	} {
		got, ok := impl.ChooseOdd(c.n, c.k)
		wantTold(t, fmt.Sprint(c.k, " of ", c.n), got, ok, c.want, true)
	}
}

// The rows by the ways themselves, which are no greater than an int up to 60.
func TestRowOf(t *testing.T) {
	ways := []int{1}
	for n := range maxRow + 1 {
		var want []int
		for k, many := range ways {
			if many%2 == 1 {
				want = append(want, k)
			}
			is, ok := impl.ChooseOdd(n, k)
			wantTold(t, fmt.Sprint(k, " of ", n), is, ok, many%2 == 1, true)
		}
		got, ok := impl.RowOf(n)
		wantNumbers(t, fmt.Sprint("row ", n), got, ok, want, true)
		if len(got) != 1<<bits.OnesCount(uint(n)) || got[0] != 0 || got[len(got)-1] != n {
			t.Error("row", n, "is", got)
		}
		next := append(slices.Clone(ways), 1)
		for k := 1; k <= n; k++ {
			next[k] = ways[k-1] + ways[k]
		}
		ways = next
	}
	for n, want := range [][]int{{0}, {0, 1}, {0, 2}, {0, 1, 2, 3}, {0, 4}, {0, 1, 4, 5}, {0, 2, 4, 6}, {0, 1, 2, 3, 4, 5, 6, 7}, {0, 8}} {
		got, ok := impl.RowOf(n)
		wantNumbers(t, fmt.Sprint("row ", n, ", written out"), got, ok, want, true)
	}
	got, ok := impl.RowOf(maxRow)
	wantNumbers(t, "row 60", got, ok, []int{0, 4, 8, 12, 16, 20, 24, 28, 32, 36, 40, 44, 48, 52, 56, 60}, true)
}

// beyondRange: numbers outside of from..to.
func beyondRange(from, to int) []int {
	return []int{from - 1, from - 2, -to, -to - 1, to + 1, to + 2, 2*to + 1, 1 << 32, 1<<32 + 1, 1<<32 + to, math.MinInt, math.MinInt + 1, math.MinInt + to, math.MaxInt, math.MaxInt - 1}
}

func TestNumbersOutOfRangeForParity(t *testing.T) {
	for _, l := range []cells{nil, {}, {at(0, 0)}, falling, block, wide(impl.MaxCells)} {
		for _, times := range beyondRange(0, maxParity) {
			got, ok := impl.ParityTimes(l, times)
			wantCells(t, fmt.Sprint(l, " times ", times), got, ok, nil, false)
		}
		for _, by := range append(beyondRange(1, far), 0) {
			got, ok := impl.FourCopies(l, by)
			wantCells(t, fmt.Sprint(l, " by ", by), got, ok, nil, false)
		}
	}
	for _, times := range beyondRange(0, maxParity) {
		got, ok := impl.CentreTimes(times)
		wantCells(t, fmt.Sprint("centre, times ", times), got, ok, nil, false)
	}
	for _, n := range beyondRange(0, maxRow) {
		got, ok := impl.RowOf(n)
		wantNumbers(t, fmt.Sprint("row ", n), got, ok, nil, false)
	}
	wrong := beyondRange(0, maxChosen)
	for _, n := range wrong {
		for _, k := range append([]int{0, 1, 2, 8, maxChosen}, wrong...) {
			is, ok := impl.ChooseOdd(n, k)
			wantTold(t, fmt.Sprint(k, " of ", n), is, ok, false, false)
			is, ok = impl.ChooseOdd(k, n)
			wantTold(t, fmt.Sprint(n, " of ", k), is, ok, false, false)
		}
	}
}

// parityCalls: the functions of chapter 9 that answer a list, each of one list, and each adding up.
func parityCalls() map[string]func(cells) (cells, bool) {
	calls := map[string]func(cells) (cells, bool){"StepParity": impl.StepParity}
	for _, n := range []int{1, 2, 5, 16, 24} {
		calls[fmt.Sprint("FourCopies ", n)] = func(l cells) (cells, bool) { return impl.FourCopies(l, n) }
	}
	for _, n := range []int{0, 1, 2, 3, 7, 16} {
		calls[fmt.Sprint("ParityTimes ", n)] = func(l cells) (cells, bool) { return impl.ParityTimes(l, n) }
	}
	return calls
}

// allParityCalls: those, and each of the others of one list, the one or the other.
func allParityCalls() map[string]func(cells) (cells, bool) {
	calls := parityCalls()
	for name, other := range map[string]cells{"none": nil, "a block": block, "slope": falling, "MaxCells": wide(impl.MaxCells)} {
		calls["UnlikeCells a "+name] = func(l cells) (cells, bool) { return impl.UnlikeCells(l, other) }
		calls["UnlikeCells b "+name] = func(l cells) (cells, bool) { return impl.UnlikeCells(other, l) }
	}
	calls["UnlikeCells of both"] = func(l cells) (cells, bool) { return impl.UnlikeCells(l, l) }
	return calls
}

func TestBadListsDoNotAddUp(t *testing.T) {
	bad := badLists()
	for name, l := range bad {
		for call, on := range allParityCalls() {
			got, ok := on(l)
			wantCells(t, call+" "+name, got, ok, nil, false)
		}
		for other, b := range bad {
			got, ok := impl.UnlikeCells(l, b)
			wantCells(t, "UnlikeCells "+name+", "+other, got, ok, nil, false)
		}
		for _, n := range append(beyondRange(1, far), 0) {
			got, ok := impl.FourCopies(l, n)
			wantCells(t, fmt.Sprint("FourCopies ", name, " by ", n), got, ok, nil, false)
			got, ok = impl.ParityTimes(l, n)
			wantCells(t, fmt.Sprint("ParityTimes ", name, " times ", n), got, ok, nil, false)
		}
	}
}

func TestWhatAddsUpIsNewMemory(t *testing.T) {
	lists := badLists()
	for i, l := range parityTried() {
		if i%9 == 0 {
			lists[fmt.Sprint("list ", i)] = l
		}
	}
	for _, name := range slices.Sorted(maps.Keys(lists)) {
		given, whole := guarded(lists[name])
		before := slices.Clone(whole)
		for call, on := range allParityCalls() {
			what := call + " " + name
			got, ok := on(given)
			again, told := on(given)
			want, wantOk := on(slices.Clip(slices.Clone(lists[name])))
			wantCells(t, what+": what lies behind is read", got, ok, want, wantOk)
			wantApart(t, what, []span{spanOf(got), spanOf(again), spanOf(whole), spanOf(block), spanOf(falling)})
			spoil(got)
			wantCells(t, what+": an answer's memory is another one's", again, told, want, wantOk)
			got, ok = on(given)
			wantCells(t, what+": once more", got, ok, want, wantOk)
		}
		if !slices.Equal(whole, before) {
			t.Fatalf("%s: the argument's memory is written", name)
		}
	}
}

func TestUnlikeCellsWritesIntoNeither(t *testing.T) {
	for _, c := range []struct{ a, b cells }{{block, glider}, {nil, block}, {glider, nil}, {row(-20, 0, 41), row(-20, 0, 41)}} {
		a, wholeA := guarded(c.a)
		b, wholeB := guarded(c.b)
		beforeA, beforeB := slices.Clone(wholeA), slices.Clone(wholeB)
		got, ok := impl.UnlikeCells(a, b)
		wantCells(t, fmt.Sprint(c), got, ok, plainUnlike(c.a, c.b), true)
		wantApart(t, fmt.Sprint(c), []span{spanOf(got), spanOf(wholeA), spanOf(wholeB)})
		spoil(got)
		if !slices.Equal(wholeA, beforeA) || !slices.Equal(wholeB, beforeB) {
			t.Error("an argument's memory is written:", c)
		}
	}
}

func TestRowsAndCentresAreNewMemory(t *testing.T) {
	for n := range maxRow + 1 {
		first, _ := impl.RowOf(n)
		want := slices.Clone(first)
		other, _ := impl.RowOf(n)
		wantApart(t, fmt.Sprint("row ", n), []span{spanOf(first), spanOf(other)})
		clear(first[:cap(first)])
		again, ok := impl.RowOf(n)
		wantNumbers(t, fmt.Sprint("row ", n, " again"), again, ok, want, true)
		wantNumbers(t, fmt.Sprint("row ", n, ", the other"), other, ok, want, true)
	}
	for times := range maxParity - 1 {
		first, _ := impl.CentreTimes(times)
		want := slices.Clone(first)
		other, _ := impl.CentreTimes(times)
		wantApart(t, fmt.Sprint("times ", times), []span{spanOf(first), spanOf(other)})
		spoil(first)
		again, ok := impl.CentreTimes(times)
		wantCells(t, fmt.Sprint("times ", times, " again"), again, ok, want, true)
		wantCells(t, fmt.Sprint("times ", times, ", the other"), other, ok, want, true)
	}
}

// Good cells behind a list's length are as if they were not there.
func TestNothingBehindTheLengthAddsUp(t *testing.T) {
	whole := slices.Concat(row(-1, 0, 6), row(-1, 1, 2), row(-5, 3, 3))
	before := slices.Clone(whole)
	for long := range len(whole) + 1 {
		for call, on := range allParityCalls() {
			got, ok := on(whole[:long])
			want, wantOk := on(slices.Clip(slices.Clone(whole[:long])))
			wantCells(t, fmt.Sprint(call, " ", long), got, ok, want, wantOk)
		}
	}
	wantCells(t, "what lies behind", whole, true, before, true)
}

// A function that leant on the order of a map, or kept something from call to call, would tell others now and then.
func TestTheSameAddsUpAgain(t *testing.T) {
	for _, l := range []cells{nil, glider, wide(impl.MaxCells), row(-20, 0, 41), falling, pulsar} {
		for call, on := range allParityCalls() {
			first, ok := on(l)
			for range 10 {
				on(toad)
				impl.CentreTimes(7)
				got, told := on(l)
				wantCells(t, call, got, told, first, ok)
			}
		}
	}
}
