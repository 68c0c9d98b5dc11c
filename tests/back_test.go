package tests

import (
	"fmt"
	"maps"
	"math"
	"math/rand"
	"slices"
	"testing"

	"loop.example/g00613/impl"
)

type fate = impl.Fate

const mostSteps = 20

// wantThat: fails unless the answer is this one and that told.
func wantThat[T comparable](t *testing.T, what string, got T, ok bool, want T, wantOk bool) {
	t.Helper()
	if got != want || ok != wantOk {
		t.Errorf("%s: got %v %v, want %v %v", what, got, ok, want, wantOk)
	}
}

// wantLists: fails unless the answer is these lists and that told.
func wantLists(t *testing.T, what string, got []cells, ok bool, want []cells, wantOk bool) {
	t.Helper()
	if ok != wantOk || !slices.EqualFunc(got, want, slices.Equal[cells]) {
		t.Errorf("%s: got %v %v, want %v %v", what, got, ok, want, wantOk)
	}
}

func wantHome(t *testing.T, what string, got cells, by impl.Cell, ok bool, want cells, wantBy impl.Cell, wantOk bool) {
	t.Helper()
	wantCells(t, what, got, ok, want, wantOk)
	wantThat(t, what+": by", by, ok, wantBy, wantOk)
}

// drawn: the cells of rows of signs, `o` for each.
func drawn(rows ...string) cells {
	var l cells
	for y, signs := range rows {
		for x, sign := range signs {
			if sign == 'o' {
				l = append(l, at(x, y))
			}
		}
	}
	return l
}

// beside: cells of both, in order.
func beside(a, b cells) cells { return sortCells(slices.Concat(a, b)) }

// moved: the cells with X more by x and Y by y.
func moved(l cells, x, y int) cells { return shiftedBy(l, -x, -y) }

var (
	toad   = drawn(".ooo", "ooo.")
	beacon = drawn("oo..", "o...", "...o", "..oo")
	pulsar = drawn("..ooo...ooo..", "", "o....o.o....o", "o....o.o....o", "o....o.o....o", "..ooo...ooo..", "",
		"..ooo...ooo..", "o....o.o....o", "o....o.o....o", "o....o.o....o", "", "..ooo...ooo..")
	mold    = drawn("...oo.", "..o..o", "o..o.o", "....o.", "o.oo..", ".o....")
	octagon = drawn("...oo...", "..o..o..", ".o....o.", "o......o", "o......o", ".o....o.", "..o..o..", "...oo...")
	eight   = drawn("ooo...", "ooo...", "ooo...", "...ooo", "...ooo", "...ooo")
	decade  = drawn("..o....o..", "oo.oooo.oo", "..o....o..")
	ship    = drawn(".o..o", "o....", "o...o", "oooo.")
	dies16  = drawn("o...", "oo..", "o.oo")
	dies17  = drawn(".o..", ".o.o", ".o..", "oo..")
	dies20  = drawn(".o...", "o....", "o.o..", ".oo..", "...o.")
	dies21  = drawn("o.oo", "o..o", "oo..", "o...")
	bursts  = drawn("oo.o", "o..o", "o...", "o...", "o...")
)

// known: cells, their period (0 for none within 20 steps), and what becomes of them, told by hand.
type known struct {
	l      cells
	period int
	fate   fate
}

func knownCells() map[string]known {
	still := fate{Every: 1}
	return map[string]known{
		"none":                 {nil, 1, still},
		"a block":              {block, 1, still},
		"a hive":               {drawn(".oo.", "o..o", ".oo."), 1, still},
		"a boat":               {drawn("oo.", "o.o", ".o."), 1, still},
		"two blocks apart":     {beside(moved(block, -far, -far), moved(block, far-1, far-1)), 1, still},
		"blinker":              {blinker, 2, fate{Every: 2}},
		"toad":                 {toad, 2, fate{Every: 2}},
		"beacon":               {beacon, 2, fate{Every: 2}},
		"pulsar":               {pulsar, 3, fate{Every: 3}},
		"mold":                 {mold, 4, fate{Every: 4}},
		"octagon":              {octagon, 5, fate{Every: 5}},
		"blinker and pulsar":   {beside(blinker, moved(pulsar, 10, 10)), 6, fate{Every: 6}},
		"eight":                {eight, 8, fate{Every: 8}},
		"mold and pulsar":      {beside(mold, moved(pulsar, 20, 0)), 12, fate{Every: 12}},
		"fifteen":              {decade, 15, fate{Every: 15}},
		"octagon and pulsar":   {beside(octagon, moved(pulsar, 15, 15)), 15, fate{Every: 15}},
		"mold and octagon":     {beside(mold, moved(octagon, -30, 12)), 20, fate{Every: 20}},
		"eight and pulsar":     {beside(eight, moved(pulsar, 20, 0)), 0, fate{}},
		"glider":               {glider, 0, fate{Every: 4, X: 1, Y: 1}},
		"ship":                 {ship, 0, fate{Every: 4, X: -2}},
		"ahead of a glider":    {drawn("o.o", "..o", ".oo"), 0, fate{After: 1, Every: 4, X: 1, Y: 1}},
		"far ahead of one":     {drawn("...o", "...o", "oo.o", "o..."), 0, fate{After: 4, Every: 4, X: -1, Y: -1}},
		"two gliders apart":    {beside(moved(glider, -far, -far), moved(glider, 30, 20)), 0, fate{Every: 4, X: 1, Y: 1}},
		"glider and block":     {beside(glider, moved(block, 20, 0)), 0, fate{}},
		"glider and ship":      {beside(glider, moved(ship, -20, 0)), 0, fate{}},
		"a cell":               {cells{at(3, 4)}, 0, fate{After: 1, Every: 1}},
		"a cell and a block":   {beside(block, cells{at(-9, -9)}), 0, fate{After: 1, Every: 1}},
		"a cell at 0":          {cells{at(0, 0)}, 0, fate{After: 1, Every: 1}},
		"a block, a cell at 0": {beside(moved(block, -9, -9), cells{at(0, 0)}), 0, fate{After: 1, Every: 1}},
		"three of a block":     {block[:3], 0, fate{After: 1, Every: 1}},
		"glider, lost in 16":   {beside(glider, moved(dies16, -20, -20)), 0, fate{After: 16, Every: 4, X: 1, Y: 1}},
		"glider, lost in 17":   {beside(glider, moved(dies17, -20, -20)), 0, fate{}},
		"ship, lost in 16":     {beside(ship, moved(dies16, 20, 10)), 0, fate{After: 16, Every: 4, X: -2}},
		"dead in 16":           {dies16, 0, fate{After: 16, Every: 1}},
		"dead in 20":           {dies20, 0, fate{}},
		"four to blinkers":     {drawn("ooo", ".o."), 0, fate{After: 9, Every: 2}},
		"a glider off a lamp":  {beside(glider, moved(blinker, -10, -5)), 0, fate{}},
	}
}

// plainPast: what comes of good cells behind 0 steps, 1 and so on up to steps, as far as it is good.
func plainPast(l cells, steps int) []cells {
	past := []cells{l}
	for len(past) <= steps {
		next := plainStep(past[len(past)-1])
		if !plainGood(next) {
			break
		}
		past = append(past, next)
	}
	return past
}

// plainHome: the cells from their least X and Y on, and these.
func plainHome(l cells) (cells, impl.Cell) {
	if len(l) == 0 {
		return nil, impl.Cell{}
	}
	least, _ := ends(l)
	return plainForm(l), least
}

// plainPeriod, plainFate, plainDeath: by the words of the document, of what came.
func plainPeriod(past []cells, most int) (int, bool) {
	for p := 1; p <= most && p < len(past); p++ {
		if slices.Equal(past[p], past[0]) {
			return p, true
		}
	}
	return 0, false
}

func plainFate(past []cells, most int) (fate, bool) {
	for b := 1; b <= most && b < len(past); b++ {
		for a := range b {
			was, from := plainHome(past[a])
			is, to := plainHome(past[b])
			if slices.Equal(was, is) {
				return fate{After: a, Every: b - a, X: to.X - from.X, Y: to.Y - from.Y}, true
			}
		}
	}
	return fate{}, false
}

func plainDeath(past []cells, most int) (int, bool) {
	for n := 0; n <= most && n < len(past); n++ {
		if len(past[n]) == 0 {
			return n, true
		}
	}
	return 0, false
}

// plainParts: each cell takes the least number of those that it is joined with, again and again, till all of a part have one.
func plainParts(l cells) []cells {
	part := make([]int, len(l))
	for i := range l {
		part[i] = i
	}
	for changed := true; changed; {
		changed = false
		for i, a := range l {
			for j, b := range l {
				if max(a.X-b.X, b.X-a.X) <= 2 && max(a.Y-b.Y, b.Y-a.Y) <= 2 && part[j] < part[i] {
					part[i], changed = part[j], true
				}
			}
		}
	}
	var parts []cells
	for i := range l {
		var one cells
		for j, c := range l {
			if part[j] == i {
				one = append(one, c)
			}
		}
		if len(one) > 0 {
			parts = append(parts, one)
		}
	}
	return parts
}

// fits: those moves of the cells that leave them good: to all four corners, and to some other places.
func fits(r *rand.Rand, l cells) []cells {
	if len(l) == 0 {
		return []cells{l}
	}
	least, most := ends(l)
	left, right, up, down := -far-least.X, far-most.X, -far-least.Y, far-most.Y
	places := cells{at(0, 0), at(left, up), at(right, up), at(left, down), at(right, down)}
	for range 2 {
		places = append(places, at(left+r.Intn(right-left+1), up+r.Intn(down-up+1)))
	}
	var lists []cells
	for _, c := range places {
		lists = append(lists, moved(l, c.X, c.Y))
	}
	return lists
}

// beacons: so many, apart from each other: of 6 cells each, and of 8 a step on.
func beacons(n int) cells {
	var l cells
	for i := range n {
		l = beside(l, moved(beacon, i%4*10-20, i/4*10-20))
	}
	return l
}

// livesTried: good cells of many kinds: those that are known, at many places, thin and thick ones, and few, side by side.
func livesTried() []cells {
	r := rand.New(rand.NewSource(47))
	lists := slices.Clone(mixedLists()[:100])
	all := knownCells()
	for _, name := range slices.Sorted(maps.Keys(all)) {
		lists = append(lists, fits(r, all[name].l)...)
	}
	for n := 10; n <= 16; n++ {
		lists = append(lists, beacons(n))
	}
	for i := range 200 {
		side := 2 + r.Intn(5)
		l := fits(r, someCells(r, 0, 0, side, 1+side*side/2))
		lists = append(lists, l[i%len(l)])
	}
	return lists
}

// mostsTried: all, or some: the ends, a few between, and those around the answers.
func mostsTried(r *rand.Rand, all bool, answers ...int) []int {
	mosts := []int{1, mostSteps, 1 + r.Intn(mostSteps)}
	for n := 1; n <= mostSteps; n++ {
		for _, a := range answers {
			if all || n == a || n == a-1 || n == a+1 {
				mosts = append(mosts, n)
			}
		}
	}
	return mosts
}

func TestWhatComesBackIsThePlainOne(t *testing.T) {
	r := rand.New(rand.NewSource(48))
	periods, fates, deaths, histories := map[bool]int{}, map[bool]int{}, map[bool]int{}, map[bool]int{}
	for i, l := range livesTried() {
		past := plainPast(l, mostSteps)
		p, _ := plainPeriod(past, mostSteps)
		f, _ := plainFate(past, mostSteps)
		d, _ := plainDeath(past, mostSteps)
		for _, most := range mostsTried(r, i%10 == 0, p, f.After+f.Every, d, len(past)) {
			what := fmt.Sprint("list ", i, " most ", most)
			wantP, wantOk := plainPeriod(past, most)
			gotP, ok := impl.PeriodOf(l, most)
			wantThat(t, "PeriodOf "+what, gotP, ok, wantP, wantOk)
			periods[ok]++
			wantF, wantOk := plainFate(past, most)
			gotF, ok := impl.FateOf(l, most)
			wantThat(t, "FateOf "+what, gotF, ok, wantF, wantOk)
			fates[ok]++
			wantD, wantOk := plainDeath(past, most)
			gotD, ok := impl.DiesWithin(l, most)
			wantThat(t, "DiesWithin "+what, gotD, ok, wantD, wantOk)
			deaths[ok]++
			want := past[:min(most+1, len(past))]
			if wantOk = len(past) > most; !wantOk {
				want = nil
			}
			got, ok := impl.HistoryOf(l, most)
			wantLists(t, "HistoryOf "+what, got, ok, want, wantOk)
			histories[ok]++
		}
	}
	for name, told := range map[string]map[bool]int{"PeriodOf": periods, "FateOf": fates, "DiesWithin": deaths, "HistoryOf": histories} {
		if told[true] < 300 || told[false] < 300 {
			t.Errorf("the lists try too little of %s: %v", name, told)
		}
	}
}

func TestPeriodsAndFatesThatAreKnown(t *testing.T) {
	for name, k := range knownCells() {
		still, ok := impl.IsStill(k.l)
		wantTold(t, "IsStill "+name, still, ok, k.period == 1, true)
		for most := 1; most <= mostSteps; most++ {
			what := fmt.Sprint(name, ", most ", most)
			p, ok := impl.PeriodOf(k.l, most)
			if k.period > 0 && k.period <= most {
				wantThat(t, "PeriodOf "+what, p, ok, k.period, true)
			} else {
				wantThat(t, "PeriodOf "+what, p, ok, 0, false)
			}
			f, ok := impl.FateOf(k.l, most)
			if b := k.fate.After + k.fate.Every; b > 0 && b <= most {
				wantThat(t, "FateOf "+what, f, ok, k.fate, true)
			} else {
				wantThat(t, "FateOf "+what, f, ok, fate{}, false)
			}
		}
	}
}

// What moves on goes the other way where it is turned about.
func TestFatesOfGlidersTurned(t *testing.T) {
	for i, turn := range turned() {
		l := sortCells(eachTurned(glider, turn))
		to := turn(1, 1)
		f, ok := impl.FateOf(l, 4)
		wantThat(t, fmt.Sprint("glider, turn ", i), f, ok, fate{Every: 4, X: to.X, Y: to.Y}, true)
		f, ok = impl.FateOf(l, 3)
		wantThat(t, fmt.Sprint("glider, turn ", i, ", one less"), f, ok, fate{}, false)
		l = sortCells(eachTurned(ship, turn))
		to = turn(-2, 0)
		f, ok = impl.FateOf(l, mostSteps)
		wantThat(t, fmt.Sprint("ship, turn ", i), f, ok, fate{Every: 4, X: to.X, Y: to.Y}, true)
	}
}

func eachTurned(l cells, turn func(x, y int) impl.Cell) cells {
	var other cells
	for _, c := range l {
		other = append(other, turn(c.X, c.Y))
	}
	return other
}

// A glider that goes towards the rim tells its fate just as long as four steps are within it; what comes behind does not count.
func TestGlidersAtTheRim(t *testing.T) {
	just, short := 0, 0
	for i := range 4 * 4 * 11 {
		turn, phase, to := turned()[i%4], i/4%4, far-12+i/16
		l := sortCells(eachTurned(moved(plainMany(glider, phase), to, -to), turn))
		if !plainGood(l) {
			continue
		}
		within := len(plainPast(l, mostSteps)) - 1
		what := fmt.Sprint(l)
		f, ok := impl.FateOf(l, mostSteps)
		if by := turn(1, 1); within >= 4 {
			wantThat(t, what, f, ok, fate{Every: 4, X: by.X, Y: by.Y}, true)
		} else {
			wantThat(t, what, f, ok, fate{}, false)
		}
		if within == 4 {
			just++
		}
		if within == 3 {
			short++
		}
		p, ok := impl.PeriodOf(l, mostSteps)
		wantThat(t, "PeriodOf "+what, p, ok, 0, false)
		d, ok := impl.DiesWithin(l, mostSteps)
		wantThat(t, "DiesWithin "+what, d, ok, 0, false)
		h, ok := impl.HistoryOf(l, within)
		wantLists(t, "HistoryOf "+what, h, ok, plainPast(l, within), true)
		if within < mostSteps {
			h, ok = impl.HistoryOf(l, within+1)
			wantLists(t, "HistoryOf, one more, "+what, h, ok, nil, false)
		}
	}
	if just == 0 || short == 0 {
		t.Error("no glider goes beyond just behind four steps, or ahead of them:", just, short)
	}
}

// Cells whose first or later step has one beyond Far come to nothing here, even where they would come back, or die.
func TestBeyondTheRimAhead(t *testing.T) {
	for i, turn := range turned() {
		along := sortCells(cells{turn(far, -1), turn(far, 0), turn(far, 1)})
		across := sortCells(cells{turn(far-2, 0), turn(far-1, 0), turn(far, 0)})
		what := fmt.Sprint("turn ", i)
		for most := 1; most <= mostSteps; most++ {
			p, ok := impl.PeriodOf(along, most)
			wantThat(t, what+" along", p, ok, 0, false)
			f, ok := impl.FateOf(along, most)
			wantThat(t, what+" along", f, ok, fate{}, false)
			p, ok = impl.PeriodOf(across, most)
			wantThat(t, what+" across", p, ok, min(most/2, 1)*2, most >= 2)
			f, ok = impl.FateOf(across, most)
			wantThat(t, what+" across", f, ok, fate{Every: min(most/2, 1) * 2}, most >= 2)
		}
		still, ok := impl.IsStill(along)
		wantTold(t, what+" along", still, ok, false, false)
		still, ok = impl.IsStill(across)
		wantTold(t, what+" across", still, ok, false, true)
		corner := sortCells(cells{turn(far, far), turn(far-1, far), turn(far, far-1), turn(far-1, far-1)})
		still, ok = impl.IsStill(corner)
		wantTold(t, what+" in the corner", still, ok, true, true)
	}
}

// rimDeaths: cells with no X above 0 that die out, some with a cell above 0 on the way, and the first step that has one.
func rimDeaths() []struct {
	l           cells
	beyond, all int
} {
	return []struct {
		l           cells
		beyond, all int
	}{
		{drawn("o.o", "..o", "..o"), 1, 3},
		{drawn(".o.", "..o", "..o", "..o"), 1, 5},
		{drawn("o..", ".oo", ".oo", "..o"), 1, 7},
		{drawn(".oo", "ooo", "", ".o."), 2, 3},
		{drawn("o.o", ".oo", "", "..o"), 2, 5},
		{drawn("o.o", ".o.", ".oo", ".o."), 3, 4},
		{drawn("o.o", ".o.", ".oo", "..o"), 3, 8},
		{drawn("oo.", "oo.", ".o.", "..o"), 4, 7},
	}
}

func TestDyingAtTheRim(t *testing.T) {
	for i, c := range rimDeaths() {
		for j, turn := range turned() {
			l := sortCells(eachTurned(moved(c.l, far-2, 0), turn))
			inner := sortCells(eachTurned(moved(c.l, far-2-8, 0), turn))
			what := fmt.Sprint("cells ", i, " turn ", j)
			if n := len(plainPast(l, mostSteps)); n != c.beyond {
				t.Fatal(what, "go beyond at", n)
			}
			for most := 1; most <= mostSteps; most++ {
				n, ok := impl.DiesWithin(l, most)
				wantThat(t, what+" at the rim", n, ok, 0, false)
				f, ok := impl.FateOf(l, most)
				wantThat(t, what+" at the rim", f, ok, fate{}, false)
				n, ok = impl.DiesWithin(inner, most)
				if most >= c.all {
					wantThat(t, what+" within", n, ok, c.all, true)
				} else {
					wantThat(t, what+" within", n, ok, 0, false)
				}
			}
		}
	}
}

func TestDeathsThatAreKnown(t *testing.T) {
	for _, c := range []struct {
		l    cells
		dies int
	}{
		{nil, 0},
		{cells{at(0, 0)}, 1},
		{cells{at(-far, -far), at(far, -far), at(-far, far), at(far, far)}, 1},
		{cells{at(far, -far)}, 1},
		{row(0, 0, 2), 1},
		{drawn("oo.", "", "..o"), 2},
		{drawn(".o.", "o..", ".oo"), 3},
		{dies16, 16},
		{dies17, 17},
		{dies20, 20},
		{dies21, 21},
		{bursts, 20},
		{blinker, 100},
		{block, 100},
		{glider, 100},
		{beside(block, cells{at(-9, -9)}), 100},
	} {
		for most := 1; most <= mostSteps; most++ {
			n, ok := impl.DiesWithin(c.l, most)
			if c.dies <= most {
				wantThat(t, fmt.Sprint(c.l, " most ", most), n, ok, c.dies, true)
			} else {
				wantThat(t, fmt.Sprint(c.l, " most ", most), n, ok, 0, false)
			}
		}
	}
}

// Beacons are of 6 cells and of 8 in turn: 15 come to just MaxCells, 16 to more, and would come back.
func TestMoreThanMaxCellsAhead(t *testing.T) {
	just, over := beacons(15), beacons(16)
	if n := len(plainStep(just)); n != impl.MaxCells {
		t.Fatal("just MaxCells are wanted:", n)
	}
	p, ok := impl.PeriodOf(just, 2)
	wantThat(t, "15", p, ok, 2, true)
	f, ok := impl.FateOf(just, 2)
	wantThat(t, "15", f, ok, fate{Every: 2}, true)
	still, ok := impl.IsStill(just)
	wantTold(t, "15", still, ok, false, true)
	h, ok := impl.HistoryOf(just, 2)
	wantLists(t, "15", h, ok, []cells{just, plainStep(just), just}, true)

	p, ok = impl.PeriodOf(over, mostSteps)
	wantThat(t, "16", p, ok, 0, false)
	f, ok = impl.FateOf(over, mostSteps)
	wantThat(t, "16", f, ok, fate{}, false)
	still, ok = impl.IsStill(over)
	wantTold(t, "16", still, ok, false, false)
	h, ok = impl.HistoryOf(over, 0)
	wantLists(t, "16, none ahead", h, ok, []cells{over}, true)
	h, ok = impl.HistoryOf(over, 1)
	wantLists(t, "16", h, ok, nil, false)
	parts, ok := impl.LoneParts(over)
	wantThat(t, "parts of 16", len(parts), ok, 16, true)
}

// Four bursts come to more than MaxCells and die out behind that; three stay below.
func TestDyingWithMoreThanMaxCellsAhead(t *testing.T) {
	var l cells
	for i := 1; i <= 4; i++ {
		l = beside(l, moved(bursts, i%2*30, i/2*30-30))
		n, ok := impl.DiesWithin(l, mostSteps)
		if i < 4 {
			wantThat(t, fmt.Sprint(i, " bursts"), n, ok, 20, true)
		} else {
			wantThat(t, fmt.Sprint(i, " bursts"), n, ok, 0, false)
		}
	}
}

func TestIsStillIsThePlainOne(t *testing.T) {
	told := map[[2]bool]int{}
	for i, l := range livesTried() {
		next := plainStep(l)
		good := plainGood(next)
		still, ok := impl.IsStill(l)
		wantTold(t, fmt.Sprint("list ", i), still, ok, good && slices.Equal(next, l), good)
		told[[2]bool{still, ok}]++
	}
	for _, answer := range [][2]bool{{true, true}, {false, true}, {false, false}} {
		if told[answer] < 20 {
			t.Errorf("the lists try too little: %v", told)
		}
	}
	blocks := cells{}
	for i := range impl.MaxCells / 4 {
		blocks = beside(blocks, moved(block, i%6*4-20, i/6*4-20))
	}
	still, ok := impl.IsStill(blocks)
	wantTold(t, "blocks of MaxCells cells", still, ok, true, true)
	// One block less, or one cell moved, is still no more or not the same.
	still, ok = impl.IsStill(blocks[:len(blocks)-1])
	wantTold(t, "the last cell gone", still, ok, false, true)
}

// Of MaxCells cells the last one alone is another a step on.
func TestTheLastCellCounts(t *testing.T) {
	var l cells
	for i := range impl.MaxCells/4 - 1 {
		l = append(l, moved(block, i%6*4-20, i/6*4-20)...)
	}
	l = sortCells(append(l, at(0, 10), at(0, 11), at(1, 11), at(2, 11)))
	next := plainStep(l)
	if last := len(l) - 1; len(l) != impl.MaxCells || len(next) != len(l) || !slices.Equal(l[:last], next[:last]) || l[last] == next[last] {
		t.Fatal("cells that differ in the last one alone are wanted:", l, next)
	}
	still, ok := impl.IsStill(l)
	wantTold(t, "IsStill", still, ok, false, true)
	p, ok := impl.PeriodOf(l, 1)
	wantThat(t, "PeriodOf", p, ok, 0, false)
	f, ok := impl.FateOf(l, 1)
	wantThat(t, "FateOf", f, ok, fate{}, false)
}

func TestHistoryOf(t *testing.T) {
	up := cells{at(0, -1), at(0, 0), at(0, 1)}
	h, ok := impl.HistoryOf(blinker, 3)
	wantLists(t, "a blinker", h, ok, []cells{blinker, up, blinker, up}, true)
	h, ok = impl.HistoryOf(blinker, 0)
	wantLists(t, "none on", h, ok, []cells{blinker}, true)
	h, ok = impl.HistoryOf(wide(impl.MaxCells), 0)
	wantLists(t, "MaxCells, none on", h, ok, []cells{wide(impl.MaxCells)}, true)
	h, ok = impl.HistoryOf(cells{at(3, 3)}, 2)
	wantLists(t, "a cell", h, ok, []cells{{at(3, 3)}, nil, nil}, true)
	for steps := 0; steps <= mostSteps; steps++ {
		h, ok = impl.HistoryOf(nil, steps)
		wantLists(t, "no cells", h, ok, make([]cells, steps+1), true)
		h, ok = impl.HistoryOf(glider, steps)
		wantLists(t, "a glider", h, ok, plainPast(glider, steps), true)
		for n, now := range h {
			want, wantOk := impl.StepTimes(glider, n)
			wantCells(t, "a glider, by StepTimes", now, ok, want, wantOk)
		}
	}
}

func TestHomeOf(t *testing.T) {
	told := map[bool]int{}
	for i, l := range livesTried() {
		what := fmt.Sprint("list ", i)
		want, wantBy := plainHome(l)
		good := plainGood(want)
		if !good {
			want, wantBy = nil, impl.Cell{}
		}
		home, by, ok := impl.HomeOf(l)
		wantHome(t, what, home, by, ok, want, wantBy, good)
		if ok {
			back, ok := impl.MoveCells(home, by.X, by.Y)
			wantCells(t, what+": back", back, ok, l, true)
			again, none, ok := impl.HomeOf(home)
			wantHome(t, what+": again", again, none, ok, home, impl.Cell{}, true)
		}
		told[ok]++
	}
	if told[true] < 100 || told[false] < 10 {
		t.Errorf("the lists try too little: %v", told)
	}
}

// Cells that are 40 apart have a home, those that are 41 apart have none.
func TestHomeOfCellsFarApart(t *testing.T) {
	home, by, ok := impl.HomeOf(nil)
	wantHome(t, "no cells", home, by, ok, nil, impl.Cell{}, true)
	for _, c := range (cells{at(0, 0), at(far, far), at(-far, -far), at(far, -far), at(-3, 7)}) {
		home, by, ok = impl.HomeOf(cells{c})
		wantHome(t, fmt.Sprint("one ", c), home, by, ok, cells{at(0, 0)}, c, true)
	}
	for from := -far; from <= far; from++ {
		for long := far - 2; long <= far+2 && from+long <= far; long++ {
			what := fmt.Sprint("from ", from, " long ", long)
			lists := []cells{
				{at(from, 5), at(from+long, 5)},
				{at(5, from), at(5, from+long)},
				{at(from, from), at(from+long, from+long)},
				{at(from+long, from), at(from, from+long)},
			}
			for _, l := range lists {
				home, by, ok = impl.HomeOf(l)
				if least, _ := ends(l); long <= far {
					wantHome(t, what, home, by, ok, moved(l, -least.X, -least.Y), least, true)
				} else {
					wantHome(t, what, home, by, ok, nil, impl.Cell{}, false)
				}
			}
		}
	}
	// The least X and the least Y are of two cells here, neither of the first one alone.
	home, by, ok = impl.HomeOf(cells{at(9, -4), at(-7, 2), at(3, 2), at(1, 8)})
	wantHome(t, "least of two", home, by, ok, cells{at(16, 0), at(0, 6), at(10, 6), at(8, 12)}, at(-7, -4), true)
}

// Fates are told of cells that are too far apart for a home.
func TestFatesOfCellsFarApart(t *testing.T) {
	corners := sortCells(slices.Concat(moved(block, -far, -far), moved(block, far-1, -far), moved(block, -far, far-1), moved(block, far-1, far-1)))
	gliders := beside(moved(glider, -far, -far), moved(glider, far-8, far-8))
	for name, c := range map[string]known{
		"corners":               {corners, 1, fate{Every: 1}},
		"corners and a blinker": {beside(corners, blinker), 2, fate{Every: 2}},
		"corners and a cell":    {beside(corners, cells{at(0, 0)}), 0, fate{After: 1, Every: 1}},
		"gliders":               {gliders, 0, fate{Every: 4, X: 1, Y: 1}},
	} {
		if _, _, ok := impl.HomeOf(c.l); ok {
			t.Errorf("%s: there is a home", name)
		}
		f, ok := impl.FateOf(c.l, mostSteps)
		wantThat(t, name, f, ok, c.fate, true)
		p, ok := impl.PeriodOf(c.l, mostSteps)
		wantThat(t, name, p, ok, c.period, c.period > 0)
	}
	// Of gliders that go apart none is the same further on, of those that go one behind the other both are.
	other := sortCells(eachTurned(glider, turned()[1]))
	f, ok := impl.FateOf(beside(glider, moved(other, -10, 0)), mostSteps)
	wantThat(t, "gliders going apart", f, ok, fate{}, false)
	f, ok = impl.FateOf(beside(glider, moved(glider, -10, -9)), mostSteps)
	wantThat(t, "gliders going along", f, ok, fate{Every: 4, X: 1, Y: 1}, true)
}

// What has come back comes back again and again, and at no step that the least period does not part.
func TestWhatHasComeBackComesBackAgain(t *testing.T) {
	again, between := 0, 0
	for i, l := range livesTried() {
		p, ok := impl.PeriodOf(l, mostSteps)
		if !ok {
			continue
		}
		for n := 0; n <= mostSteps; n++ {
			now, ok := impl.StepTimes(l, n)
			if same := ok && slices.Equal(now, l); same != (n%p == 0) {
				t.Errorf("list %d of period %d: the same behind %d: %v", i, p, n, same)
			}
			if n%p == 0 {
				again++
			} else {
				between++
			}
			q, told := impl.PeriodOf(now, mostSteps)
			wantThat(t, fmt.Sprint("list ", i, " behind ", n), q, told, p, true)
		}
		f, ok := impl.FateOf(l, p)
		if !ok || f.After != 0 || p%f.Every != 0 {
			t.Errorf("list %d of period %d: %v %v", i, p, f, ok)
		}
	}
	if again < 500 || between < 500 {
		t.Error("the lists try too little:", again, between)
	}
}

// What is the same further on has gone at most one cell a step, and goes on so.
func TestWhatIsFurtherOnGoesOn(t *testing.T) {
	gone, far := 0, 0
	for i, l := range livesTried() {
		f, ok := impl.FateOf(l, mostSteps)
		if !ok {
			continue
		}
		if max(f.X, -f.X, f.Y, -f.Y) > f.Every || f.After < 0 || f.Every < 1 || f.After+f.Every > mostSteps {
			t.Errorf("list %d: %v", i, f)
		}
		first, _ := impl.StepTimes(l, f.After)
		for times := 1; f.After+times*f.Every <= mostSteps; times++ {
			now, ok := impl.StepTimes(l, f.After+times*f.Every)
			if !ok {
				break
			}
			wantCells(t, fmt.Sprint("list ", i, " ", f, " times ", times), now, ok, moved(first, times*f.X, times*f.Y), true)
			gone++
			if f.X != 0 || f.Y != 0 {
				far++
			}
		}
		p, ok := impl.PeriodOf(l, f.After+f.Every)
		want, wantOk := 0, f.After == 0 && f.X == 0 && f.Y == 0
		if wantOk {
			want = f.Every
		}
		wantThat(t, fmt.Sprint("list ", i, " ", f), p, ok, want, wantOk)
	}
	if gone < 500 || far < 50 {
		t.Error("the lists try too little:", gone, far)
	}
}

// Where cells stand makes no difference to what becomes of them.
func TestMovedCellsComeBackAlike(t *testing.T) {
	r := rand.New(rand.NewSource(49))
	tried := 0
	for i := range 60 {
		side := 2 + r.Intn(4)
		l := someCells(r, 0, 0, side, 1+side*side/2)
		f, ok1 := impl.FateOf(l, 8)
		p, ok2 := impl.PeriodOf(l, 8)
		d, ok3 := impl.DiesWithin(l, 8)
		for _, other := range fits(r, shiftedBy(l, 10, 10)) {
			if len(plainPast(other, 8)) < 9 {
				continue
			}
			what := fmt.Sprint("list ", i, " as ", other)
			g, ok := impl.FateOf(other, 8)
			wantThat(t, "FateOf "+what, g, ok, f, ok1)
			q, ok := impl.PeriodOf(other, 8)
			wantThat(t, "PeriodOf "+what, q, ok, p, ok2)
			e, ok := impl.DiesWithin(other, 8)
			wantThat(t, "DiesWithin "+what, e, ok, d, ok3)
			tried++
		}
	}
	if tried < 200 {
		t.Error("the lists try too little:", tried)
	}
}

func TestLonePartsOfTwoCells(t *testing.T) {
	for y := 0; y <= 4; y++ {
		for x := -4; x <= 4; x++ {
			if y == 0 && x <= 0 {
				continue
			}
			l := cells{at(5, -5), at(5+x, -5+y)}
			want := []cells{l}
			if x < -2 || x > 2 || y > 2 {
				want = []cells{l[:1], l[1:]}
			}
			parts, ok := impl.LoneParts(l)
			wantLists(t, fmt.Sprint("by ", x, y), parts, ok, want, true)
		}
	}
}

func TestLonePartsThatAreKnown(t *testing.T) {
	var single []cells
	for i := range impl.MaxCells {
		single = append(single, cells{at(i%12*3-18, i/12*3-15)})
	}
	corners := cells{at(-far, -far), at(far, -far), at(-far, far), at(far, far)}
	for name, c := range map[string]struct {
		l    cells
		want []cells
	}{
		"none":                       {nil, nil},
		"one":                        {cells{at(far, far)}, []cells{{at(far, far)}}},
		"corners":                    {corners, []cells{corners[:1], corners[1:2], corners[2:3], corners[3:]}},
		"each alone":                 {slices.Concat(single...), single},
		"all together":               {wide(impl.MaxCells), []cells{wide(impl.MaxCells)}},
		"joined by a third":          {cells{at(0, 0), at(4, 0), at(2, 1)}, []cells{{at(0, 0), at(4, 0), at(2, 1)}}},
		"joined by the last":         {cells{at(0, 0), at(3, 0), at(6, 0), at(1, 2), at(3, 2), at(5, 2)}, []cells{{at(0, 0), at(3, 0), at(6, 0), at(1, 2), at(3, 2), at(5, 2)}}},
		"not joined by a third":      {cells{at(0, 0), at(5, 0), at(2, 1)}, []cells{{at(0, 0), at(2, 1)}, {at(5, 0)}}},
		"by first cells, not by X":   {cells{at(9, 0), at(0, 1), at(9, 2)}, []cells{{at(9, 0), at(9, 2)}, {at(0, 1)}}},
		"the first found last":       {cells{at(0, 0), at(2, 2), at(1, 4), at(-1, 5)}, []cells{{at(0, 0), at(2, 2), at(1, 4), at(-1, 5)}}},
		"a ring and its middle":      {ringAndMiddle(4), []cells{having(ringAndMiddle(4), isNot(at(0, 0))), {at(0, 0)}}},
		"a ring close to its middle": {ringAndMiddle(2), []cells{ringAndMiddle(2)}},
		"a way there and back":       {wayBack, []cells{wayBack}},
		"blinker and block":          {beside(blinker, moved(block, 4, 0)), []cells{blinker, moved(block, 4, 0)}},
		"blinker by a block":         {beside(blinker, moved(block, 3, 0)), []cells{beside(blinker, moved(block, 3, 0))}},
	} {
		parts, ok := impl.LoneParts(c.l)
		wantLists(t, name, parts, ok, c.want, true)
	}
}

// wayBack: one part alone, whose cells are joined one by one, up and down again.
var wayBack = sortCells(cells{at(0, 0), at(0, 2), at(0, 4), at(2, 5), at(4, 4), at(4, 2), at(4, 0), at(4, -2), at(6, -3)})

// ringAndMiddle: a square's edge so far from its middle, two cells wide steps apart, and the middle.
func ringAndMiddle(off int) cells {
	l := cells{at(0, 0)}
	for n := -off; n <= off; n += 2 {
		l = append(l, at(n, -off), at(n, off), at(-off, n), at(off, n))
	}
	return sortCells(l)
}

func isNot(c impl.Cell) func(impl.Cell) bool {
	return func(d impl.Cell) bool { return c != d }
}

// sparseLists: cells in parts of one and of many, between and around each other.
func sparseLists() []cells {
	r := rand.New(rand.NewSource(50))
	lists := livesTried()
	for range 300 {
		side := 4 + r.Intn(2*far-3)
		x, y := r.Intn(2*far+2-side)-far, r.Intn(2*far+2-side)-far
		lists = append(lists, someCells(r, x, y, side, 1+r.Intn(min(impl.MaxCells, side*side/4))))
	}
	return lists
}

func TestLonePartsAreThePlainOnes(t *testing.T) {
	many := 0
	for i, l := range sparseLists() {
		parts, ok := impl.LoneParts(l)
		wantLists(t, fmt.Sprint("list ", i), parts, ok, plainParts(l), true)
		if len(parts) > 3 && len(parts) < len(l)-3 {
			many++
		}
	}
	if many < 100 {
		t.Error("the lists try too little:", many)
	}
}

// Lone parts do not touch each other: a step of all is a step of each.
func TestLonePartsStepAlone(t *testing.T) {
	tried := 0
	for i, l := range sparseLists() {
		parts, ok := impl.LoneParts(l)
		next, told := impl.StepCells(l)
		if !ok || !told || len(parts) < 2 {
			continue
		}
		var all cells
		for _, part := range parts {
			one, ok := impl.StepCells(part)
			if !ok {
				t.Errorf("list %d: a part alone is refused", i)
			}
			all = append(all, one...)
		}
		wantCells(t, fmt.Sprint("list ", i), sortCells(all), true, next, true)
		tried++
	}
	if tried < 100 {
		t.Error("the lists try too little:", tried)
	}
}

func wrongSteps() []int {
	return []int{-1, -2, -mostSteps, mostSteps + 1, mostSteps + 2, 100, 1 << 32, 1<<32 + 1, math.MinInt, math.MinInt + 1, math.MaxInt}
}

// wantNoFate: fails unless every function of chapter 7 that takes a most, or steps, tells the zero answer.
func wantNoFate(t *testing.T, what string, l cells, most int) {
	t.Helper()
	p, ok := impl.PeriodOf(l, most)
	wantThat(t, "PeriodOf "+what, p, ok, 0, false)
	f, ok := impl.FateOf(l, most)
	wantThat(t, "FateOf "+what, f, ok, fate{}, false)
	n, ok := impl.DiesWithin(l, most)
	wantThat(t, "DiesWithin "+what, n, ok, 0, false)
}

func TestStepsOutOfRange(t *testing.T) {
	for _, l := range []cells{nil, block, blinker, glider, {at(0, 0)}} {
		wantNoFate(t, "most 0", l, 0)
		for _, n := range wrongSteps() {
			what := fmt.Sprint(l, n)
			wantNoFate(t, what, l, n)
			h, ok := impl.HistoryOf(l, n)
			wantLists(t, "HistoryOf "+what, h, ok, nil, false)
		}
	}
}

func TestBadListsDoNotComeBack(t *testing.T) {
	for name, l := range badLists() {
		for n := 0; n <= mostSteps+1; n++ {
			what := fmt.Sprint(name, " ", n)
			wantNoFate(t, what, l, n)
			h, ok := impl.HistoryOf(l, n)
			wantLists(t, "HistoryOf "+what, h, ok, nil, false)
		}
		for _, n := range wrongSteps() {
			wantNoFate(t, fmt.Sprint(name, " ", n), l, n)
			h, ok := impl.HistoryOf(l, n)
			wantLists(t, "HistoryOf "+name, h, ok, nil, false)
		}
		still, ok := impl.IsStill(l)
		wantTold(t, "IsStill "+name, still, ok, false, false)
		home, by, ok := impl.HomeOf(l)
		wantHome(t, "HomeOf "+name, home, by, ok, nil, impl.Cell{}, false)
		parts, ok := impl.LoneParts(l)
		wantLists(t, "LoneParts "+name, parts, ok, nil, false)
	}
}

// backCalls: the functions of chapter 7 that answer lists, each of one list.
func backCalls() map[string]func(cells) ([]cells, bool) {
	return map[string]func(cells) ([]cells, bool){
		"HistoryOf 0":  func(l cells) ([]cells, bool) { return impl.HistoryOf(l, 0) },
		"HistoryOf 1":  func(l cells) ([]cells, bool) { return impl.HistoryOf(l, 1) },
		"HistoryOf 20": func(l cells) ([]cells, bool) { return impl.HistoryOf(l, 20) },
		"LoneParts":    impl.LoneParts,
		"HomeOf": func(l cells) ([]cells, bool) {
			home, _, ok := impl.HomeOf(l)
			return []cells{home}, ok
		},
	}
}

// spansOfLists: the memory of each of them, and of the list of them.
func spansOfLists(lists []cells) []span {
	all := []span{spanOf(lists)}
	for _, l := range lists {
		all = append(all, spanOf(l))
	}
	return all
}

// askBack: all answers of chapter 7 that are no lists, in one value.
func askBack(l cells, most int) [12]any {
	p, ok1 := impl.PeriodOf(l, most)
	f, ok2 := impl.FateOf(l, most)
	s, ok3 := impl.IsStill(l)
	d, ok4 := impl.DiesWithin(l, most)
	_, by, ok5 := impl.HomeOf(l)
	return [12]any{p, ok1, f, ok2, s, ok3, d, ok4, by, ok5}
}

func TestWhatComesBackIsNewMemory(t *testing.T) {
	lists := badLists()
	for i, l := range sparseLists() {
		if i%8 == 0 {
			lists[fmt.Sprint("list ", i)] = l
		}
	}
	for _, name := range slices.Sorted(maps.Keys(lists)) {
		given, whole := guarded(lists[name])
		before := slices.Clone(whole)
		for call, on := range backCalls() {
			what := call + " " + name
			got, ok := on(given)
			again, told := on(given)
			want, wantOk := on(slices.Clip(slices.Clone(lists[name])))
			wantLists(t, what+": what lies behind is read", got, ok, want, wantOk)
			wantApart(t, what, slices.Concat(spansOfLists(got), spansOfLists(again), []span{spanOf(whole)}))
			for _, l := range got {
				spoil(l)
			}
			clear(got[:cap(got)])
			wantLists(t, what+": an answer's memory is another one's", again, told, want, wantOk)
			got, ok = on(given)
			wantLists(t, what+": once more", got, ok, want, wantOk)
		}
		for _, most := range []int{-1, 0, 1, 2, 20, 21} {
			wantThat(t, name, askBack(given, most), true, askBack(slices.Clone(lists[name]), most), true)
		}
		if !slices.Equal(whole, before) {
			t.Fatalf("%s: the argument's memory is written", name)
		}
	}
}

// Good cells behind a list's length are as if they were not there.
func TestNothingBehindTheLengthComesBack(t *testing.T) {
	whole := slices.Concat(row(-1, 0, 6), row(-1, 1, 2), row(-5, 3, 3))
	for long := range len(whole) + 1 {
		plain := slices.Clip(slices.Clone(whole[:long]))
		for call, on := range backCalls() {
			got, ok := on(whole[:long])
			want, wantOk := on(plain)
			wantLists(t, fmt.Sprint(call, " ", long), got, ok, want, wantOk)
		}
		for most := 1; most <= mostSteps; most++ {
			wantThat(t, fmt.Sprint(long, " ", most), askBack(whole[:long], most), true, askBack(plain, most), true)
		}
	}
}

// A function that leant on the order of a map, or kept something from call to call, would tell others now and then.
func TestTheSameComesBackAgain(t *testing.T) {
	for _, l := range []cells{glider, beacons(15), slices.Concat(row(-20, 0, 40), row(-20, 9, 40)), dies20} {
		for call, on := range backCalls() {
			first, ok := on(l)
			for range 10 {
				on(pulsar)
				got, told := on(l)
				wantLists(t, call, got, told, first, ok)
			}
		}
		first := askBack(l, mostSteps)
		for range 10 {
			askBack(pulsar, mostSteps)
			wantThat(t, "the others", askBack(l, mostSteps), true, first, true)
		}
	}
}
